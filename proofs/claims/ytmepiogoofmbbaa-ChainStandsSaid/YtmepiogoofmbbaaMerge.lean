/-
  The contracts of stamp.merge at either function, and of Join and Meet.
-/
import Derived.Test.YtmepiogoofmbbaaJoinR
import Derived.Deep.RegionHeld3
namespace Go.Proofs.Ytmepiogoofmbbaa.stamp
open Go.ChangeShapes Go.WideShapes Go.ChangeAt Go.RowKit
open Go.Proofs.Ytmepiogoofmbbaa.tm Go.Proofs.Ytmepiogoofmbbaa.opened Go.Proofs.Ytmepiogoofmbbaa.block

/-- So many rounds are laid. -/
def mz (f : Int → Int → Int) (s t : Tm) : Nat → Tm
  | 0 => ⟨f s.e t.e, s.d, 0, 0, 0⟩
  | 1 => ⟨f s.e t.e, s.d, f s.a t.a, 0, 0⟩
  | 2 => ⟨f s.e t.e, s.d, f s.a t.a, f s.b t.b, 0⟩
  | _ => ⟨f s.e t.e, s.d, f s.a t.a, f s.b t.b, f s.c t.c⟩
theorem pick_max (x y : Int) (w : World) : Calls Try.prog 107 #[.int .u32 x, .int .u32 y] w fun e w' => e = .returned (.int .u32 (maxI x y)) ∧ w = w' := by
  have hm := run_maxI
  go_enter Try.func107, Try.ntmps107
  go_wp2
  go_ret
  exact ⟨rfl, rfl⟩
theorem Three.aside {wr : World} {g : Nat} {s t : Tm} (h : Three wr g s t) {p : Addr} (h1 : g ≠ p.block) (h2 : g + 1 ≠ p.block) (h3 : g + 1 + 1 ≠ p.block) (u : Value) : Three (wr.setCell p u) g s t := ⟨h.one.aside h1 u, h.two.aside h2 u, h.three.aside h3 u⟩
theorem Three.alloc {wr : World} {g : Nat} {s t : Tm} (h : Three wr g s t) (o : Obj) : Three (wr.alloc o) g s t := ⟨h.one.alloc o, h.two.alloc o, h.three.alloc o⟩
set_option maxHeartbeats 1000000 in
theorem mergeMax_good (s t : Tm) (i : s.In) (j : t.In) (h : both s t = 0) (w : World) : Calls Try.prog 106 #[.agg #[.int .u32 s.e, .int .i64 s.d, .int .u32 s.a, .int .u32 s.b, .int .u32 s.c], .agg #[.int .u32 t.e, .int .i64 t.d, .int .u32 t.a, .int .u32 t.b, .int .u32 t.c], .func (.func 107) #[] #[]] w fun e w' => e = .returned (.tuple #[.agg #[.int .u32 (mz maxI s t s.d.toNat).e, .int .i64 (mz maxI s t s.d.toNat).d, .int .u32 (mz maxI s t s.d.toNat).a, .int .u32 (mz maxI s t s.d.toNat).b, .int .u32 (mz maxI s t s.d.toNat).c], .int .i64 0]) ∧ Below w.heap.size w w' := by
  obtain ⟨hs, -, -⟩ := both_zero h
  obtain ⟨z0, z1, -⟩ := chk_zero hs
  have HB := Lib.hid h
  clear h hs
  go_enter Try.func106, Try.ntmps106
  go_wp2_with fail
  refine (both_is _ _ i j HB.out _).mono ?_
  rintro e w1 ⟨rfl, b1⟩
  obtain ⟨h3, b2⟩ := three_of b1
  clear b1 HB i j
  generalize hg : w.heap.size = g at h3 b2 ⊢
  have HG := Lib.hid hg
  clear hg
  obtain ⟨⟨p0, p1, p2, p3, p4, pf0, pf1, pf2, pf3, pf4⟩, ⟨q0, q1, q2, q3, q4, qf0, qf1, qf2, qf3, qf4⟩, ⟨r0, r1, r2, r3, r4, rf0, rf1, rf2, rf3, rf4⟩⟩ := h3.facts
  go_wp2_with fail
  go_region_held3 (fun w' => w'.cell? ⟨g, 0, none⟩ = some (.int .u32 s.e) ∧ w'.cell? ⟨g, 1, none⟩ = some (.int .i64 s.d) ∧ w'.cell? ⟨g + 1, 0, none⟩ = some (.int .u32 t.e)) (go_keep) (first | (go_at_call 107; refine (pick_max _ _ _).mono ?_; rintro e w2 ⟨rfl, rfl⟩))
  all_goals go_wp2
  all_goals clear p0 p1 p2 p3 p4 pf0 pf1 pf2 pf3 pf4 q0 q1 q2 q3 q4 qf0 qf1 qf2 qf3 qf4 r0 r1 r2 r3 r4 rf0 rf1 rf2 rf3 rf4
  all_goals have hn : Whole (w1.alloc (.cells #[.int .u32 (mz maxI s t 0).e, .int .i64 (mz maxI s t 0).d, .int .u32 (mz maxI s t 0).a, .int .u32 (mz maxI s t 0).b, .int .u32 (mz maxI s t 0).c] 26)).drew w1.heap.size 26 #[.int .u32 (mz maxI s t 0).e, .int .i64 (mz maxI s t 0).d, .int .u32 (mz maxI s t 0).a, .int .u32 (mz maxI s t 0).b, .int .u32 (mz maxI s t 0).c] := Whole.fresh w1 26 _
  all_goals have h4 : Three (w1.alloc (.cells #[.int .u32 (mz maxI s t 0).e, .int .i64 (mz maxI s t 0).d, .int .u32 (mz maxI s t 0).a, .int .u32 (mz maxI s t 0).b, .int .u32 (mz maxI s t 0).c] 26)).drew g s t := (h3.alloc _).drew
  all_goals have b4 : Below g w (w1.alloc (.cells #[.int .u32 (mz maxI s t 0).e, .int .i64 (mz maxI s t 0).d, .int .u32 (mz maxI s t 0).a, .int .u32 (mz maxI s t 0).b, .int .u32 (mz maxI s t 0).c] 26)).drew := (b2.alloc (by have := h3.one.inside; omega) _).drew
  all_goals have hlt : g + 1 + 1 < w1.heap.size := h3.three.inside
  all_goals clear h3 b2
  all_goals generalize w1.heap.size = n at hn hlt ⊢
  all_goals have x1 : ¬ n = g := by omega
  all_goals have x2 : ¬ n = g + 1 := by omega
  all_goals have x3 : ¬ n = g + 1 + 1 := by omega
  all_goals have x4 : ¬ g = n := by omega
  all_goals have x5 : ¬ g + 1 = n := by omega
  all_goals have x6 : ¬ g + 1 + 1 = n := by omega
  all_goals (
    go_loopw [29] (fun i wr => ∃ k : Nat, (k : Int) ≤ s.d ∧ i = .int .i64 k ∧ Three wr g s t ∧ Whole wr n 26 #[.int .u32 (mz maxI s t k).e, .int .i64 (mz maxI s t k).d, .int .u32 (mz maxI s t k).a, .int .u32 (mz maxI s t k).b, .int .u32 (mz maxI s t k).c] ∧ Below g w wr) (fun i _ => (3 - intOf i).toNat)
    case atStart => exact ⟨0, z0, rfl, h4, hn, b4⟩
    case round =>
      clear h4 hn b4
      obtain ⟨k, hk, rfl, ht, hn, hb⟩ := hrel
      by_cases hkd : (k : Int) < s.d
      · obtain rfl | rfl | rfl : k = 0 ∨ k = 1 ∨ k = 2 := by omega
        · obtain ⟨⟨p0, p1, p2, p3, p4, pf0, pf1, pf2, pf3, pf4⟩, ⟨q0, q1, q2, q3, q4, qf0, qf1, qf2, qf3, qf4⟩, ⟨r0, r1, r2, r3, r4, rf0, rf1, rf2, rf3, rf4⟩⟩ := ht.facts
          obtain ⟨n0, n1, n2, n3, n4, nf0, nf1, nf2, nf3, nf4⟩ := facts5 hn
          go_wp2_with fail
          go_region_held3 (fun w' => w'.cell? ⟨g, 2, none⟩ = some (.int .u32 s.a) ∧ w'.cell? ⟨g + 1, 2, none⟩ = some (.int .u32 t.a)) (go_keep) (first | (go_at_call 107; refine (pick_max _ _ _).mono ?_; rintro e w2 ⟨rfl, rfl⟩))
          all_goals go_wp2
          all_goals go_roundw
          case rel => exact ⟨1, by omega, by go_num, (ht.aside (by simp; omega) (by simp; omega) (by simp; omega) _).drew, hn.store 2 _, (hb.setCell (by simp; omega) _).drew⟩
          case measure => simp [intOf]
        · obtain ⟨⟨p0, p1, p2, p3, p4, pf0, pf1, pf2, pf3, pf4⟩, ⟨q0, q1, q2, q3, q4, qf0, qf1, qf2, qf3, qf4⟩, ⟨r0, r1, r2, r3, r4, rf0, rf1, rf2, rf3, rf4⟩⟩ := ht.facts
          obtain ⟨n0, n1, n2, n3, n4, nf0, nf1, nf2, nf3, nf4⟩ := facts5 hn
          go_wp2_with fail
          go_region_held3 (fun w' => w'.cell? ⟨g, 3, none⟩ = some (.int .u32 s.b) ∧ w'.cell? ⟨g + 1, 3, none⟩ = some (.int .u32 t.b)) (go_keep) (first | (go_at_call 107; refine (pick_max _ _ _).mono ?_; rintro e w2 ⟨rfl, rfl⟩))
          all_goals go_wp2
          all_goals go_roundw
          case rel => exact ⟨2, by omega, by go_num, (ht.aside (by simp; omega) (by simp; omega) (by simp; omega) _).drew, hn.store 3 _, (hb.setCell (by simp; omega) _).drew⟩
          case measure => simp [intOf]
        · obtain ⟨⟨p0, p1, p2, p3, p4, pf0, pf1, pf2, pf3, pf4⟩, ⟨q0, q1, q2, q3, q4, qf0, qf1, qf2, qf3, qf4⟩, ⟨r0, r1, r2, r3, r4, rf0, rf1, rf2, rf3, rf4⟩⟩ := ht.facts
          obtain ⟨n0, n1, n2, n3, n4, nf0, nf1, nf2, nf3, nf4⟩ := facts5 hn
          go_wp2_with fail
          go_region_held3 (fun w' => w'.cell? ⟨g, 4, none⟩ = some (.int .u32 s.c) ∧ w'.cell? ⟨g + 1, 4, none⟩ = some (.int .u32 t.c)) (go_keep) (first | (go_at_call 107; refine (pick_max _ _ _).mono ?_; rintro e w2 ⟨rfl, rfl⟩))
          all_goals go_wp2
          all_goals go_roundw
          case rel => exact ⟨3, by omega, by go_num, (ht.aside (by simp; omega) (by simp; omega) (by simp; omega) _).drew, hn.store 4 _, (hb.setCell (by simp; omega) _).drew⟩
          case measure => simp [intOf]
      · have hkk : k = s.d.toNat := by omega
        have HK := Lib.hid hkk
        clear hkk
        obtain ⟨⟨p0, p1, p2, p3, p4, pf0, pf1, pf2, pf3, pf4⟩, ⟨q0, q1, q2, q3, q4, qf0, qf1, qf2, qf3, qf4⟩, ⟨r0, r1, r2, r3, r4, rf0, rf1, rf2, rf3, rf4⟩⟩ := ht.facts
        obtain ⟨n0, n1, n2, n3, n4, nf0, nf1, nf2, nf3, nf4⟩ := facts5 hn
        go_wp2
        exact bodyPost_ret (v := .tuple #[.agg #[.int .u32 (mz maxI s t k).e, .int .i64 (mz maxI s t k).d, .int .u32 (mz maxI s t k).a, .int .u32 (mz maxI s t k).b, .int .u32 (mz maxI s t k).c], .int .i64 0]) (by obtain ⟨z0, z1, z2, z3, z4, -⟩ := facts5 (five ht.three (.int .u32 (mz maxI s t k).e) (.int .i64 (mz maxI s t k).d) (.int .u32 (mz maxI s t k).a) (.int .u32 (mz maxI s t k).b) (.int .u32 (mz maxI s t k).c)); simp [results, Try.results106, go_sem, z0, z1, z2, z3, z4]) rfl ⟨by rw [HK.out], by
          have := HG.out
          subst this
          repeat (with_reducible refine Below.setCell ?_ (by simp; omega) _)
          exact hb⟩)
end Go.Proofs.Ytmepiogoofmbbaa.stamp
