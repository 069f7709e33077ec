/-
  The contracts of path.first, path.LE and path.To.
-/
import Derived.Test.YtilkdpobkcocoaaAp
namespace Go.Proofs.Ytilkdpobkcocoaa.path
open Go.ChangeShapes Go.WideShapes Go.ChangeAt Go.RowKit
open Go.Proofs.Ytilkdpobkcocoaa.tm Go.Proofs.Ytilkdpobkcocoaa.opened Go.Proofs.Ytilkdpobkcocoaa.block Go.Proofs.Ytilkdpobkcocoaa.stamp Go.Proofs.Ytilkdpobkcocoaa.pa

theorem ze_chk (d : Int) : chk ⟨0, d, 0, 0, 0⟩ = 0 ∨ ¬ (0 ≤ d ∧ d ≤ 3) := by
  by_cases h : 0 ≤ d ∧ d ≤ 3
  · exact .inl (zero_chk h.1 h.2)
  · exact .inr h
/-- What Apply tells of the first time of the depth from which a path comes. -/
theorem fst_apply (p : Pa) : applyE p ⟨0, p.f, 0, 0, 0⟩ = chkP p ∧ applyV p ⟨0, p.f, 0, 0, 0⟩ = fstV p := by
  by_cases h : chkP p = 0
  · have a := chkP_open h
    obtain ⟨e, v⟩ := apply_of h (zero_chk (d := p.f) (by omega) (by omega)) rfl (fst_over h)
    refine ⟨by rw [e, h], ?_⟩
    rw [v]
    unfold fstV
    rw [if_pos h]
    rfl
  · have s : startE p ⟨0, p.f, 0, 0, 0⟩ = chkP p := by unfold startE; rw [if_neg h]
    have e : applyE p ⟨0, p.f, 0, 0, 0⟩ = chkP p := by unfold applyE; rw [if_neg (by rw [s]; exact h), s]
    exact ⟨e, by unfold applyV fstV; rw [e, if_neg h, if_neg h]⟩
theorem in_zero {d : Int} (h0 : -9223372036854775808 ≤ d) (h1 : d ≤ 9223372036854775807) : Tm.In ⟨0, d, 0, 0, 0⟩ := by
  constructor <;> dsimp only <;> omega
theorem first_any (p : Pa) (i : p.In) (w : World) : Calls Try.prog 39 #[.agg #[.int .i64 p.f, .int .i64 p.k, .int .u32 p.p0, .int .u32 p.p1, .int .u32 p.p2, .int .u32 p.p3, .int .i64 p.u, .int .u32 p.l0, .int .u32 p.l1, .int .u32 p.l2]] w (GivesT (fstV p) (chkP p) w) := by
  have A := Lib.hid (apply_any p ⟨0, p.f, 0, 0, 0⟩ i (in_zero i.f0 i.f1))
  rw [(fst_apply p).1, (fst_apply p).2] at A
  dsimp only at A
  clear i
  generalize fstV p = V at A ⊢
  generalize chkP p = E at A ⊢
  go_enter Try.func39, Try.ntmps39
  go_wp2_with (first
    | (go_at_call 8; refine (A.out _).mono ?_; rintro e w1 ⟨rfl, b1⟩; obtain ⟨hR, hB, hx⟩ := res_of b1; clear b1; rw [World.size_alloc] at hR hB hx)
    | (refine put rfl 28 (.tmp 2) _ rfl (g := w.heap.size + 1) rfl rfl hR (by kernel_rfl) rfl (by simp [Value.oneCell']) hB (Nat.le_refl _) ?_; intro w9 hR9 hB9 hs9 ho9))
  exact bodyPost_ret (two_time Try.results39 rfl rfl (t := V) hR9) rfl (givesT (over1 (by rw [World.size_alloc]; exact hB9)) rfl rfl)
theorem to_any' (p : Pa) (i : p.In) (w : World) : Calls Try.prog 17 #[.agg #[.int .i64 p.f, .int .i64 p.k, .int .u32 p.p0, .int .u32 p.p1, .int .u32 p.p2, .int .u32 p.p3, .int .i64 p.u, .int .u32 p.l0, .int .u32 p.l1, .int .u32 p.l2]] w fun e w' => e = .returned (.int .i64 (toV p)) ∧ Below w.heap.size w w' := by
  unfold toV
  have C := Lib.hid (chkP_any p i)
  by_cases h : chkP p = 0
  · have a := chkP_open h
    rw [h] at C
    rw [if_pos h]
    have k0 := a.1.2.2.1
    have u0 := a.1.2.2.2.2.1
    have k1 : p.k ≤ 3 := by omega
    have u1 : p.u ≤ 3 := by omega
    clear a h i
    go_enter Try.func17, Try.ntmps17
    go_wp2_with (go_at_call 15; refine (C.out _).mono ?_; rintro e w1 ⟨rfl, b1⟩; obtain ⟨hR, hB, hx⟩ := res_of b1; clear b1; generalize hg : w.heap.size = g at hR hB hx ⊢; have HG := Lib.hid hg; clear hg; obtain ⟨hc, hf⟩ := all_of hR)
    go_ret
    exact ⟨rfl, by rw [HG.out]; exact hB⟩
  · rw [if_neg h]
    generalize chkP p = E at C h
    have hE : (E != 0) = true := by simpa using h
    clear h i
    go_enter Try.func17, Try.ntmps17
    go_wp2_with (go_at_call 15; refine (C.out _).mono ?_; rintro e w1 ⟨rfl, b1⟩)
    go_ret
    exact ⟨rfl, over1 b1⟩
theorem in_fst {p : Pa} (i : p.In) (h : chkP p = 0) : (fstT p).In := by
  have a := chk_zero (fst_chk h)
  have c := chkP_open h
  have i1 := i.p00
  have i2 := i.p10
  have i3 := i.p20
  have i4 := i.p30
  have j1 := i.l00
  have j2 := i.l10
  have j3 := i.l20
  have n : 0 ≤ (fstT p).e ∧ 0 ≤ (fstT p).a ∧ 0 ≤ (fstT p).b ∧ 0 ≤ (fstT p).c := by
    unfold fstT rawT
    dsimp only
    refine ⟨by omega, ?_, ?_, ?_⟩ <;> repeat' split
    all_goals omega
  constructor <;> omega
end Go.Proofs.Ytilkdpobkcocoaa.path
