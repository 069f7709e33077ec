/-
  Blocks that are known whole, as a walk wants them; a path and what is wrong, handed back.
  The contracts of the five paths of any depth, the program's and the document's own.
-/
import Derived.Test.YtpblpjopinllcaaGreatDoorJTm
import Derived.Test.YtpblpjopinllcaaGreatDoorJLe
import Derived.Test.YtpblpjopinllcaaGreatDoorJPa
import Derived.Test.YtpblpjopinllcaaGreatDoorJBlock
namespace Go.Proofs.YtpblpjopinllcaaGreatDoor.path
open Go.ChangeShapes Go.WideShapes Go.ChangeAt Go.RowKit
open Go.Proofs.YtpblpjopinllcaaGreatDoor.tm Go.Proofs.YtpblpjopinllcaaGreatDoor.opened Go.Proofs.YtpblpjopinllcaaGreatDoor.block Go.Proofs.YtpblpjopinllcaaGreatDoor.stamp Go.Proofs.YtpblpjopinllcaaGreatDoor.pa

theorem over1 {w w1 : World} {o : Obj} (b1 : Below (w.alloc o).heap.size (w.alloc o) w1) : Below w.heap.size w w1 := (fresh1 _ _).trans (b1.mono (by simp))
/-- What a block that is known whole holds, and that it may be written. -/
theorem all_of {w : World} {g : Nat} {t : TypeId} {cs : Array Value} (h : Whole w g t cs) : (∀ i, w.cell? ⟨g, i, none⟩ = cs[i]?) ∧ (∀ i, w.frozen? ⟨g, i, none⟩ = false) := ⟨h.read, h.soft⟩
/-- Behind a call, a block that was made ahead of it. -/
theorem res_of {w w1 : World} {t : TypeId} {cs : Array Value} (b : Below (w.alloc (.cells cs t)).heap.size (w.alloc (.cells cs t)) w1) : Whole w1 w.heap.size t cs ∧ Below w.heap.size w w1 ∧ w.heap.size < w1.heap.size :=
  ⟨(Whole.fresh w t cs).below b (by simp), (fresh1 _ _).trans (b.mono (by simp)), by have := b.size; simp at this; omega⟩
theorem ten {w : World} {g : Nat} {t : TypeId} {a b c d e f h i j k : Value} (hw : Whole w g t #[a, b, c, d, e, f, h, i, j, k]) (v0 v1 v2 v3 v4 v5 v6 v7 v8 v9 : Value) :
    Whole ((((((((((w.setCell ⟨g, 0, none⟩ v0).setCell ⟨g, 1, none⟩ v1).setCell ⟨g, 2, none⟩ v2).setCell ⟨g, 3, none⟩ v3).setCell ⟨g, 4, none⟩ v4).setCell ⟨g, 5, none⟩ v5).setCell ⟨g, 6, none⟩ v6).setCell ⟨g, 7, none⟩ v7).setCell ⟨g, 8, none⟩ v8).setCell ⟨g, 9, none⟩ v9) g t #[v0, v1, v2, v3, v4, v5, v6, v7, v8, v9] := by
  have h := (((((((((hw.store 0 v0).store 1 v1).store 2 v2).store 3 v3).store 4 v4).store 5 v5).store 6 v6).store 7 v7).store 8 v8).store 9 v9
  simpa using h
/-- A path and what is wrong, handed back. -/
def Gives (p : Pa) (x : Int) (w : World) (e : Ending) (w' : World) : Prop := e = .returned (.tuple #[.agg #[.int .i64 p.f, .int .i64 p.k, .int .u32 p.p0, .int .u32 p.p1, .int .u32 p.p2, .int .u32 p.p3, .int .i64 p.u, .int .u32 p.l0, .int .u32 p.l1, .int .u32 p.l2], .int .i64 x]) ∧ Below w.heap.size w w'
theorem gives {p q : Pa} {x y : Int} {w w' : World} (hb : Below w.heap.size w w') (h : q = p) (k : y = x) : Gives p x w (.returned (.tuple #[.agg #[.int .i64 q.f, .int .i64 q.k, .int .u32 q.p0, .int .u32 q.p1, .int .u32 q.p2, .int .u32 q.p3, .int .i64 q.u, .int .u32 q.l0, .int .u32 q.l1, .int .u32 q.l2], .int .i64 y])) w' := by rw [h, k]; exact ⟨rfl, hb⟩
theorem gives_at {p q : Pa} {x y : Int} {w w' : World} {g : Nat} (hg : Hid (w.heap.size = g)) (hb : Below g w w') (h : q = p) (k : y = x) : Gives p x w (.returned (.tuple #[.agg #[.int .i64 q.f, .int .i64 q.k, .int .u32 q.p0, .int .u32 q.p1, .int .u32 q.p2, .int .u32 q.p3, .int .i64 q.u, .int .u32 q.l0, .int .u32 q.l1, .int .u32 q.l2], .int .i64 y])) w' := gives (hg.out ▸ hb) h k
theorem size_path : (Tryz.prog.info? 53).map (·.size) = some 10 := by kernel_rfl
theorem size_pathR : (Tryz.prog.info? 102).map (·.size) = some 10 := by kernel_rfl
/-- The two results of a function that hands back a path and what is wrong. -/
theorem two_path {fn : Func} {p q : Tmp} (h : fn.results = #[.cell p 53, .tmp q]) {tmps : Array Value} {w : World} {g : Nat} {t : TypeId} {P : Pa} {x : Int}
    (hp : tmps[p]?.getD undef = .pointer (some ⟨g, 0, none⟩)) (hq : tmps[q]?.getD undef = .int .i64 x) (hw : Whole w g t #[.int .i64 P.f, .int .i64 P.k, .int .u32 P.p0, .int .u32 P.p1, .int .u32 P.p2, .int .u32 P.p3, .int .i64 P.u, .int .u32 P.l0, .int .u32 P.l1, .int .u32 P.l2]) : (results fn tmps).run Tryz.prog w = .ok (.tuple #[.agg #[.int .i64 P.f, .int .i64 P.k, .int .u32 P.p0, .int .u32 P.p1, .int .u32 P.p2, .int .u32 P.p3, .int .i64 P.u, .int .u32 P.l0, .int .u32 P.l1, .int .u32 P.l2], .int .i64 x]) w := by
  simp [results, h, hp, hq, asAddr, loaded hw Tryz.underlying53 rfl size_path]
theorem two_pathR {fn : Func} {p q : Tmp} (h : fn.results = #[.cell p 102, .tmp q]) {tmps : Array Value} {w : World} {g : Nat} {t : TypeId} {P : Pa} {x : Int}
    (hp : tmps[p]?.getD undef = .pointer (some ⟨g, 0, none⟩)) (hq : tmps[q]?.getD undef = .int .i64 x) (hw : Whole w g t #[.int .i64 P.f, .int .i64 P.k, .int .u32 P.p0, .int .u32 P.p1, .int .u32 P.p2, .int .u32 P.p3, .int .i64 P.u, .int .u32 P.l0, .int .u32 P.l1, .int .u32 P.l2]) : (results fn tmps).run Tryz.prog w = .ok (.tuple #[.agg #[.int .i64 P.f, .int .i64 P.k, .int .u32 P.p0, .int .u32 P.p1, .int .u32 P.p2, .int .u32 P.p3, .int .i64 P.u, .int .u32 P.l0, .int .u32 P.l1, .int .u32 P.l2], .int .i64 x]) w := by
  simp [results, h, hp, hq, asAddr, loaded hw Tryz.underlying102 rfl size_pathR]
end Go.Proofs.YtpblpjopinllcaaGreatDoor.path
namespace Go.Proofs.YtpblpjopinllcaaGreatDoor.path
open Go.ChangeShapes Go.WideShapes Go.ChangeAt Go.RowKit
open Go.Proofs.YtpblpjopinllcaaGreatDoor.tm Go.Proofs.YtpblpjopinllcaaGreatDoor.opened Go.Proofs.YtpblpjopinllcaaGreatDoor.block Go.Proofs.YtpblpjopinllcaaGreatDoor.stamp Go.Proofs.YtpblpjopinllcaaGreatDoor.pa

theorem depth_yes (d : Int) (h0 : 0 ≤ d) (h1 : d ≤ 3) (w : World) : Calls Tryz.prog 165 #[.int .i64 d] w fun e w' => e = .returned (.bool true) ∧ w = w' := by
  go_enter Tryz.func165, Tryz.ntmps165
  go_wp2
  go_ret
  exact ⟨rfl, rfl⟩
theorem depth_no (d : Int) (h : d < 0 ∨ 3 < d) (w : World) : Calls Tryz.prog 165 #[.int .i64 d] w fun e w' => e = .returned (.bool false) ∧ w = w' := by
  by_cases h0 : 0 ≤ d
  · have h1 : decide (d ≤ 3) = false := by simp; omega
    clear h
    go_enter Tryz.func165, Tryz.ntmps165
    go_wp2
    go_ret
    exact ⟨rfl, rfl⟩
  · have h1 : decide (0 ≤ d) = false := by simpa using h0
    clear h
    go_enter Tryz.func165, Tryz.ntmps165
    go_wp2
    go_ret
    exact ⟨rfl, rfl⟩
theorem inner_yes (d : Int) (h0 : 1 ≤ d) (h1 : d ≤ 3) (w : World) : Calls Tryz.prog 166 #[.int .i64 d] w fun e w' => e = .returned (.bool true) ∧ w = w' := by
  go_enter Tryz.func166, Tryz.ntmps166
  go_wp2_with (go_at_call 165; refine (depth_yes _ (by omega) (by omega) _).mono ?_; rintro e w' ⟨rfl, rfl⟩)
  go_ret
  exact ⟨by simp; omega, rfl⟩
theorem inner_no (d : Int) (h : d ≤ 0 ∨ 3 < d) (w : World) : Calls Tryz.prog 166 #[.int .i64 d] w fun e w' => e = .returned (.bool false) ∧ w = w' := by
  by_cases h0 : d = 0
  · subst h0
    clear h
    go_enter Tryz.func166, Tryz.ntmps166
    go_wp2_with (go_at_call 165; refine (depth_yes _ (by omega) (by omega) _).mono ?_; rintro e w' ⟨rfl, rfl⟩)
    go_ret
    exact ⟨rfl, rfl⟩
  · have h1 : d < 0 ∨ 3 < d := by omega
    clear h h0
    go_enter Tryz.func166, Tryz.ntmps166
    go_wp2_with (go_at_call 165; refine (depth_no _ h1 _).mono ?_; rintro e w' ⟨rfl, rfl⟩)
    go_ret
    exact ⟨rfl, rfl⟩
theorem stay_bad (d : Int) (h : d < 0 ∨ 3 < d) (w : World) : Calls Tryz.prog 99 #[.int .i64 d] w (Gives P0 10 w) := by
  go_enter Tryz.func99, Tryz.ntmps99
  go_wp2_with (go_at_call 165; refine (depth_no _ h _).mono ?_; rintro e w' ⟨rfl, rfl⟩)
  exact bodyPost_ret (v := .tuple #[.agg #[.int .i64 P0.f, .int .i64 P0.k, .int .u32 P0.p0, .int .u32 P0.p1, .int .u32 P0.p2, .int .u32 P0.p3, .int .i64 P0.u, .int .u32 P0.l0, .int .u32 P0.l1, .int .u32 P0.l2], .int .i64 10]) (by simp [results, Tryz.results99, go_sem, P0]) rfl (gives (fresh1 _ _) rfl rfl)
theorem stay_good (d : Int) (h0 : 0 ≤ d) (h1 : d ≤ 3) (w : World) : Calls Tryz.prog 99 #[.int .i64 d] w (Gives ⟨d, d, 0, 0, 0, 0, 0, 0, 0, 0⟩ 0 w) := by
  go_enter Tryz.func99, Tryz.ntmps99
  go_wp2_with (go_at_call 165; refine (depth_yes _ h0 h1 _).mono ?_; rintro e w' ⟨rfl, rfl⟩)
  exact bodyPost_ret (v := .tuple #[.agg #[.int .i64 (Pa.mk d d 0 0 0 0 0 0 0 0).f, .int .i64 (Pa.mk d d 0 0 0 0 0 0 0 0).k, .int .u32 (Pa.mk d d 0 0 0 0 0 0 0 0).p0, .int .u32 (Pa.mk d d 0 0 0 0 0 0 0 0).p1, .int .u32 (Pa.mk d d 0 0 0 0 0 0 0 0).p2, .int .u32 (Pa.mk d d 0 0 0 0 0 0 0 0).p3, .int .i64 (Pa.mk d d 0 0 0 0 0 0 0 0).u, .int .u32 (Pa.mk d d 0 0 0 0 0 0 0 0).l0, .int .u32 (Pa.mk d d 0 0 0 0 0 0 0 0).l1, .int .u32 (Pa.mk d d 0 0 0 0 0 0 0 0).l2], .int .i64 0]) (by simp [results, Tryz.results99, go_sem]) rfl (gives (fresh1 _ _) rfl rfl)
theorem stay_any (d : Int) (w : World) : Calls Tryz.prog 99 #[.int .i64 d] w (Gives (stayV d) (stayE d) w) := by
  unfold stayV stayE
  split
  · exact stay_good d (by omega) (by omega) w
  · exact stay_bad d (by omega) w
theorem stayR_bad (d : Int) (h : d < 0 ∨ 3 < d) (w : World) : Calls Tryz.prog 125 #[.int .i64 d] w (Gives P0 10 w) := by
  by_cases h0 : d < 0
  · clear h
    go_enter Tryz.func125, Tryz.ntmps125
    go_wp2
    exact bodyPost_ret (v := .tuple #[.agg #[.int .i64 P0.f, .int .i64 P0.k, .int .u32 P0.p0, .int .u32 P0.p1, .int .u32 P0.p2, .int .u32 P0.p3, .int .i64 P0.u, .int .u32 P0.l0, .int .u32 P0.l1, .int .u32 P0.l2], .int .i64 10]) (by simp [results, Tryz.results125, go_sem, P0]) rfl (gives (fresh1 _ _) rfl rfl)
  · have h1 : 3 < d := by omega
    clear h
    go_enter Tryz.func125, Tryz.ntmps125
    go_wp2
    exact bodyPost_ret (v := .tuple #[.agg #[.int .i64 P0.f, .int .i64 P0.k, .int .u32 P0.p0, .int .u32 P0.p1, .int .u32 P0.p2, .int .u32 P0.p3, .int .i64 P0.u, .int .u32 P0.l0, .int .u32 P0.l1, .int .u32 P0.l2], .int .i64 10]) (by simp [results, Tryz.results125, go_sem, P0]) rfl (gives (fresh1 _ _) rfl rfl)
theorem stayR_good (d : Int) (h0 : 0 ≤ d) (h1 : d ≤ 3) (w : World) : Calls Tryz.prog 125 #[.int .i64 d] w (Gives ⟨d, d, 0, 0, 0, 0, 0, 0, 0, 0⟩ 0 w) := by
  go_enter Tryz.func125, Tryz.ntmps125
  go_wp2
  exact bodyPost_ret (v := .tuple #[.agg #[.int .i64 (Pa.mk d d 0 0 0 0 0 0 0 0).f, .int .i64 (Pa.mk d d 0 0 0 0 0 0 0 0).k, .int .u32 (Pa.mk d d 0 0 0 0 0 0 0 0).p0, .int .u32 (Pa.mk d d 0 0 0 0 0 0 0 0).p1, .int .u32 (Pa.mk d d 0 0 0 0 0 0 0 0).p2, .int .u32 (Pa.mk d d 0 0 0 0 0 0 0 0).p3, .int .i64 (Pa.mk d d 0 0 0 0 0 0 0 0).u, .int .u32 (Pa.mk d d 0 0 0 0 0 0 0 0).l0, .int .u32 (Pa.mk d d 0 0 0 0 0 0 0 0).l1, .int .u32 (Pa.mk d d 0 0 0 0 0 0 0 0).l2], .int .i64 0]) (by simp [results, Tryz.results125, go_sem]) rfl (gives (fresh1 _ _) rfl rfl)
theorem stayR_any (d : Int) (w : World) : Calls Tryz.prog 125 #[.int .i64 d] w (Gives (stayV d) (stayE d) w) := by
  unfold stayV stayE
  split
  · exact stayR_good d (by omega) (by omega) w
  · exact stayR_bad d (by omega) w
/-! Into a loop. -/
theorem goIn_any (d : Int) (w : World) : Calls Tryz.prog 95 #[.int .i64 d] w (Gives (goInV d) (goInE d) w) := by
  unfold goInV goInE
  split <;> rename_i hc
  · have h0 : 0 ≤ d := by omega
    have h1 : d ≤ 2 := by omega
    have h3 : ¬ d = 3 := by omega
    clear hc
    go_enter Tryz.func95, Tryz.ntmps95
    go_wp2_with (go_at_call 165; refine (depth_yes _ (by omega) (by omega) _).mono ?_; rintro e w' ⟨rfl, rfl⟩)
    exact bodyPost_ret (v := .tuple #[.agg #[.int .i64 (Pa.mk d d 0 0 0 0 1 0 0 0).f, .int .i64 (Pa.mk d d 0 0 0 0 1 0 0 0).k, .int .u32 (Pa.mk d d 0 0 0 0 1 0 0 0).p0, .int .u32 (Pa.mk d d 0 0 0 0 1 0 0 0).p1, .int .u32 (Pa.mk d d 0 0 0 0 1 0 0 0).p2, .int .u32 (Pa.mk d d 0 0 0 0 1 0 0 0).p3, .int .i64 (Pa.mk d d 0 0 0 0 1 0 0 0).u, .int .u32 (Pa.mk d d 0 0 0 0 1 0 0 0).l0, .int .u32 (Pa.mk d d 0 0 0 0 1 0 0 0).l1, .int .u32 (Pa.mk d d 0 0 0 0 1 0 0 0).l2], .int .i64 0]) (by simp [results, Tryz.results95, go_sem]) rfl (gives (fresh1 _ _) rfl rfl)
  · by_cases h3 : d = 3
    · subst h3
      clear hc
      go_enter Tryz.func95, Tryz.ntmps95
      go_wp2_with (go_at_call 165; refine (depth_yes _ (by omega) (by omega) _).mono ?_; rintro e w' ⟨rfl, rfl⟩)
      exact bodyPost_ret (v := .tuple #[.agg #[.int .i64 P0.f, .int .i64 P0.k, .int .u32 P0.p0, .int .u32 P0.p1, .int .u32 P0.p2, .int .u32 P0.p3, .int .i64 P0.u, .int .u32 P0.l0, .int .u32 P0.l1, .int .u32 P0.l2], .int .i64 10]) (by simp [results, Tryz.results95, go_sem, P0]) rfl (gives (fresh1 _ _) rfl rfl)
    · have h : d < 0 ∨ 3 < d := by omega
      clear hc h3
      go_enter Tryz.func95, Tryz.ntmps95
      go_wp2_with (go_at_call 165; refine (depth_no _ h _).mono ?_; rintro e w' ⟨rfl, rfl⟩)
      exact bodyPost_ret (v := .tuple #[.agg #[.int .i64 P0.f, .int .i64 P0.k, .int .u32 P0.p0, .int .u32 P0.p1, .int .u32 P0.p2, .int .u32 P0.p3, .int .i64 P0.u, .int .u32 P0.l0, .int .u32 P0.l1, .int .u32 P0.l2], .int .i64 10]) (by simp [results, Tryz.results95, go_sem, P0]) rfl (gives (fresh1 _ _) rfl rfl)
/-! Out of one. -/
theorem goOut_any (d : Int) (w : World) : Calls Tryz.prog 96 #[.int .i64 d] w (Gives (goOutV d) (goOutE d) w) := by
  unfold goOutV goOutE
  split <;> rename_i hc
  · have h0 : 1 ≤ d := by omega
    have h1 : d ≤ 3 := by omega
    clear hc
    go_enter Tryz.func96, Tryz.ntmps96
    go_wp2_with (go_at_call 166; refine (inner_yes _ (by omega) (by omega) _).mono ?_; rintro e w' ⟨rfl, rfl⟩)
    exact bodyPost_ret (v := .tuple #[.agg #[.int .i64 (Pa.mk d (d - 1) 0 0 0 0 0 0 0 0).f, .int .i64 (Pa.mk d (d - 1) 0 0 0 0 0 0 0 0).k, .int .u32 (Pa.mk d (d - 1) 0 0 0 0 0 0 0 0).p0, .int .u32 (Pa.mk d (d - 1) 0 0 0 0 0 0 0 0).p1, .int .u32 (Pa.mk d (d - 1) 0 0 0 0 0 0 0 0).p2, .int .u32 (Pa.mk d (d - 1) 0 0 0 0 0 0 0 0).p3, .int .i64 (Pa.mk d (d - 1) 0 0 0 0 0 0 0 0).u, .int .u32 (Pa.mk d (d - 1) 0 0 0 0 0 0 0 0).l0, .int .u32 (Pa.mk d (d - 1) 0 0 0 0 0 0 0 0).l1, .int .u32 (Pa.mk d (d - 1) 0 0 0 0 0 0 0 0).l2], .int .i64 0]) (by simp [results, Tryz.results96, go_sem]) rfl (gives (fresh1 _ _) rfl rfl)
  · have h : d ≤ 0 ∨ 3 < d := by omega
    clear hc
    go_enter Tryz.func96, Tryz.ntmps96
    go_wp2_with (go_at_call 166; refine (inner_no _ h _).mono ?_; rintro e w' ⟨rfl, rfl⟩)
    exact bodyPost_ret (v := .tuple #[.agg #[.int .i64 P0.f, .int .i64 P0.k, .int .u32 P0.p0, .int .u32 P0.p1, .int .u32 P0.p2, .int .u32 P0.p3, .int .i64 P0.u, .int .u32 P0.l0, .int .u32 P0.l1, .int .u32 P0.l2], .int .i64 10]) (by simp [results, Tryz.results96, go_sem, P0]) rfl (gives (fresh1 _ _) rfl rfl)
/-! To the next round. -/
theorem goOn_any (d : Int) (w : World) : Calls Tryz.prog 97 #[.int .i64 d] w (Gives (goOnV d) (goOnE d) w) := by
  unfold goOnV goOnE
  split <;> rename_i hc
  · have hd : d = 1 ∨ d = 2 ∨ d = 3 := by omega
    rcases hd with rfl | rfl | rfl
    · clear hc
      go_enter Tryz.func97, Tryz.ntmps97
      go_wp2_with (go_at_call 166; refine (inner_yes _ (by omega) (by omega) _).mono ?_; rintro e w' ⟨rfl, rfl⟩)
      refine bodyPost_ret (v := .tuple #[.agg #[.int .i64 (Pa.mk 1 1 0 1 0 0 0 0 0 0).f, .int .i64 (Pa.mk 1 1 0 1 0 0 0 0 0 0).k, .int .u32 (Pa.mk 1 1 0 1 0 0 0 0 0 0).p0, .int .u32 (Pa.mk 1 1 0 1 0 0 0 0 0 0).p1, .int .u32 (Pa.mk 1 1 0 1 0 0 0 0 0 0).p2, .int .u32 (Pa.mk 1 1 0 1 0 0 0 0 0 0).p3, .int .i64 (Pa.mk 1 1 0 1 0 0 0 0 0 0).u, .int .u32 (Pa.mk 1 1 0 1 0 0 0 0 0 0).l0, .int .u32 (Pa.mk 1 1 0 1 0 0 0 0 0 0).l1, .int .u32 (Pa.mk 1 1 0 1 0 0 0 0 0 0).l2], .int .i64 0]) (by simp [results, Tryz.results97, go_sem]) rfl (gives ?_ rfl rfl)
      repeat (with_reducible refine Below.setCell ?_ (by simp) _)
      exact fresh2 _ _ _
    · clear hc
      go_enter Tryz.func97, Tryz.ntmps97
      go_wp2_with (go_at_call 166; refine (inner_yes _ (by omega) (by omega) _).mono ?_; rintro e w' ⟨rfl, rfl⟩)
      refine bodyPost_ret (v := .tuple #[.agg #[.int .i64 (Pa.mk 2 2 0 0 1 0 0 0 0 0).f, .int .i64 (Pa.mk 2 2 0 0 1 0 0 0 0 0).k, .int .u32 (Pa.mk 2 2 0 0 1 0 0 0 0 0).p0, .int .u32 (Pa.mk 2 2 0 0 1 0 0 0 0 0).p1, .int .u32 (Pa.mk 2 2 0 0 1 0 0 0 0 0).p2, .int .u32 (Pa.mk 2 2 0 0 1 0 0 0 0 0).p3, .int .i64 (Pa.mk 2 2 0 0 1 0 0 0 0 0).u, .int .u32 (Pa.mk 2 2 0 0 1 0 0 0 0 0).l0, .int .u32 (Pa.mk 2 2 0 0 1 0 0 0 0 0).l1, .int .u32 (Pa.mk 2 2 0 0 1 0 0 0 0 0).l2], .int .i64 0]) (by simp [results, Tryz.results97, go_sem]) rfl (gives ?_ rfl rfl)
      repeat (with_reducible refine Below.setCell ?_ (by simp) _)
      exact fresh2 _ _ _
    · clear hc
      go_enter Tryz.func97, Tryz.ntmps97
      go_wp2_with (go_at_call 166; refine (inner_yes _ (by omega) (by omega) _).mono ?_; rintro e w' ⟨rfl, rfl⟩)
      refine bodyPost_ret (v := .tuple #[.agg #[.int .i64 (Pa.mk 3 3 0 0 0 1 0 0 0 0).f, .int .i64 (Pa.mk 3 3 0 0 0 1 0 0 0 0).k, .int .u32 (Pa.mk 3 3 0 0 0 1 0 0 0 0).p0, .int .u32 (Pa.mk 3 3 0 0 0 1 0 0 0 0).p1, .int .u32 (Pa.mk 3 3 0 0 0 1 0 0 0 0).p2, .int .u32 (Pa.mk 3 3 0 0 0 1 0 0 0 0).p3, .int .i64 (Pa.mk 3 3 0 0 0 1 0 0 0 0).u, .int .u32 (Pa.mk 3 3 0 0 0 1 0 0 0 0).l0, .int .u32 (Pa.mk 3 3 0 0 0 1 0 0 0 0).l1, .int .u32 (Pa.mk 3 3 0 0 0 1 0 0 0 0).l2], .int .i64 0]) (by simp [results, Tryz.results97, go_sem]) rfl (gives ?_ rfl rfl)
      repeat (with_reducible refine Below.setCell ?_ (by simp) _)
      exact fresh2 _ _ _
  · have h : d ≤ 0 ∨ 3 < d := by omega
    clear hc
    go_enter Tryz.func97, Tryz.ntmps97
    go_wp2_with (go_at_call 166; refine (inner_no _ h _).mono ?_; rintro e w' ⟨rfl, rfl⟩)
    exact bodyPost_ret (v := .tuple #[.agg #[.int .i64 P0.f, .int .i64 P0.k, .int .u32 P0.p0, .int .u32 P0.p1, .int .u32 P0.p2, .int .u32 P0.p3, .int .i64 P0.u, .int .u32 P0.l0, .int .u32 P0.l1, .int .u32 P0.l2], .int .i64 10]) (by simp [results, Tryz.results97, go_sem, P0]) rfl (gives (fresh1 _ _) rfl rfl)
/-! So many epochs on. -/
theorem stay_is (d : Int) {V : Pa} {E : Int} (h : stayV d = V) (k : stayE d = E) (w : World) : Calls Tryz.prog 99 #[.int .i64 d] w (Gives V E w) := h ▸ k ▸ stay_any d w
theorem stayR_is (d : Int) {V : Pa} {E : Int} (h : stayV d = V) (k : stayE d = E) (w : World) : Calls Tryz.prog 125 #[.int .i64 d] w (Gives V E w) := h ▸ k ▸ stayR_any d w
end Go.Proofs.YtpblpjopinllcaaGreatDoor.path
