/-
  graph.Check (by gen_gc.py).
-/
import Derived.Test.YtlbphlhbofjfgaaDoorJGh
namespace Go.Proofs.YtlbphlhbofjfgaaDoor.graph
open Go.ChangeShapes Go.WideShapes Go.ChangeAt Go.RowKit Go.Shelf
open Go.Proofs.YtlbphlhbofjfgaaDoor.opened Go.Proofs.YtlbphlhbofjfgaaDoor.block Go.Proofs.YtlbphlhbofjfgaaDoor.words
theorem sizes_of {g : Gr} (h : sizesE g = 0) : g.c.length ≤ 4 ∧ g.l.length ≤ 6 ∧ g.o.length ≤ 24 ∧ g.h.length ≤ 48 ∧ 0 < g.c.length ∧ 0 < g.o.length := by
  unfold sizesE at h
  split at h
  · cases h
  · split at h
    · cases h
    · omega
theorem inLoops_of {g : Gr} (h : firstE (oqE g) g.o.length = 0) : InLoops g := by
  intro x hx hk
  obtain ⟨i, hi, e⟩ := List.getElem_of_mem hx
  have z := first_zero h i hi
  unfold oqE at z
  rw [List.getElem?_eq_getElem hi, e] at z
  dsimp only at z
  split at z
  · rename_i n0; exact absurd z n0
  · unfold opE at z
    split at z
    · cases z
    · split at z
      · cases z
      · split at z
        · cases z
        · rename_i hw
          have : whereB x.k x.l = true := by simpa using hw
          unfold whereB at this
          rw [if_neg (by omega), if_pos (by omega)] at this
          have := of_decide_eq_true this
          omega
set_option maxRecDepth 100000 in
set_option maxHeartbeats 2000000 in
theorem check_any (v : Gv) (g : Gr) (F : Fit v g) (I : g.In) (w : World) (h : Lies4 w v g) (K : KT w) :
    Calls Tryd.prog 9 #[gV v g] w fun e w' => e = .returned (.int .i64 (checkE g)) ∧ Below w.heap.size w w' := by
  have Q1 := sizes_any v g
  have Q2 := fun a => clusters_any v g F a
  have Q3 := fun a => loops_any v g F a
  have Q4 := fun a b => ops_any v g F I a b
  have Q5 := fun a b c => channels_any v g F a b c
  obtain ⟨va, vb, vd, ve, vi, vj, vk, vm⟩ := v
  unfold gV at Q1 Q2 Q3 Q4 Q5 ⊢
  dsimp only at Q1 Q2 Q3 Q4 Q5 ⊢
  have H := Lib.hid h
  have HK := Lib.hid K
  obtain ⟨E, hE⟩ : ∃ E, checkE g = E := ⟨_, rfl⟩
  rw [hE]
  unfold checkE at hE
  replace hE := Lib.hid hE
  have hB := Lib.hid (fresh1 w (.cells #[.slice va g.c.length vi, .slice vb g.l.length vj, .slice vd g.o.length vk, .slice ve g.h.length vm] 34))
  have OX := Lib.hid (Whole.fresh w 34 #[.slice va g.c.length vi, .slice vb g.l.length vj, .slice vd g.o.length vk, .slice ve g.h.length vm])
  have H1 := Lib.hid (h.below hB.out)
  have K1 := Lib.hid (K.below hB.out)
  clear h F K I H HK
  have IX0 : ∀ w : World, (Instr.index 91 (.agg #[.func (.func 32) #[] #[], .func (.func 33) #[] #[], .func (.func 34) #[] #[], .func (.func 35) #[] #[], .func (.func 36) #[] #[]]) (.int .i64 0)).run Tryd.prog w = .ok (.func (.func 32) #[] #[]) w := fun _ => by kernel_rfl
  have IX1 : ∀ w : World, (Instr.index 91 (.agg #[.func (.func 32) #[] #[], .func (.func 33) #[] #[], .func (.func 34) #[] #[], .func (.func 35) #[] #[], .func (.func 36) #[] #[]]) (.int .i64 1)).run Tryd.prog w = .ok (.func (.func 33) #[] #[]) w := fun _ => by kernel_rfl
  have IX2 : ∀ w : World, (Instr.index 91 (.agg #[.func (.func 32) #[] #[], .func (.func 33) #[] #[], .func (.func 34) #[] #[], .func (.func 35) #[] #[], .func (.func 36) #[] #[]]) (.int .i64 2)).run Tryd.prog w = .ok (.func (.func 34) #[] #[]) w := fun _ => by kernel_rfl
  have IX3 : ∀ w : World, (Instr.index 91 (.agg #[.func (.func 32) #[] #[], .func (.func 33) #[] #[], .func (.func 34) #[] #[], .func (.func 35) #[] #[], .func (.func 36) #[] #[]]) (.int .i64 3)).run Tryd.prog w = .ok (.func (.func 35) #[] #[]) w := fun _ => by kernel_rfl
  have IX4 : ∀ w : World, (Instr.index 91 (.agg #[.func (.func 32) #[] #[], .func (.func 33) #[] #[], .func (.func 34) #[] #[], .func (.func 35) #[] #[], .func (.func 36) #[] #[]]) (.int .i64 4)).run Tryd.prog w = .ok (.func (.func 36) #[] #[]) w := fun _ => by kernel_rfl
  go_enter Tryd.func9, Tryd.ntmps9
  go_upto_region 1 with fail
  change Code.wp _ _ _ _ (w.alloc (.cells #[.slice va g.c.length vi, .slice vb g.l.length vj, .slice vd g.o.length vk, .slice ve g.h.length vm] 34))
  generalize w.alloc (.cells #[.slice va g.c.length vi, .slice vb g.l.length vj, .slice vd g.o.length vk, .slice ve g.h.length vm] 34) = w1 at OX hB H1 K1 ⊢
  obtain ⟨gg, hgg⟩ : ∃ gg, w.heap.size = gg := ⟨_, rfl⟩
  rw [hgg] at OX ⊢
  clear hgg
  have k1 := OX.out.read
  go_wp2_with fail
  refine wp_loop_rounds 6 ?_
  by_cases q1 : sizesE g = 0
  case neg =>
    have e0 : sizesE g = E := by rw [← hE.out, if_pos q1]
    rw [e0] at Q1 q1
    have nb : (E == 0) = false := by rw [beq_eq_false_iff_ne]; exact q1
    replace Q1 := Lib.hid Q1
    clear e0 hE q1
    clear Q2 Q3 Q4 Q5
    rw [rounds_succ]
    go_wp2_with (go_at_call 32; refine (Q1.out _).mono ?_; rintro e w2 ⟨rfl, b2⟩)
    go_ret
    exact ⟨rfl, hB.out.trans (b2.mono hB.out.size)⟩
  replace hE := Lib.hid ((if_neg (by rw [q1]; decide)).symm.trans hE.out)
  rw [q1] at Q1
  replace Q1 := Lib.hid Q1
  rw [rounds_succ]
  have X2 := Lib.hid Q2
  clear Q2
  have X3 := Lib.hid Q3
  clear Q3
  have X4 := Lib.hid Q4
  clear Q4
  have X5 := Lib.hid Q5
  clear Q5
  go_wp2_with (go_at_call 32; refine (Q1.out _).mono ?_; rintro e w2 ⟨rfl, b2⟩)
  have Q2 := X2.out
  clear X2
  have Q3 := X3.out
  clear X3
  have Q4 := X4.out
  clear X4
  have Q5 := X5.out
  clear X5
  have hB2 := Lib.hid (hB.out.trans (b2.mono hB.out.size))
  have OX2 := Lib.hid (OX.out.below b2 OX.out.inside)
  have H2 := Lib.hid (H1.out.below b2)
  have K2 := Lib.hid (K1.out.below b2)
  clear b2 k1 hB OX H1 K1 Q1
  have k2 := OX2.out.read
  obtain ⟨z1, z2, z3, z4, -, -⟩ := sizes_of q1
  replace Q2 := Q2 z1
  by_cases q2 : firstE (clE g.c) g.c.length = 0
  case neg =>
    have e0 : firstE (clE g.c) g.c.length = E := by rw [← hE.out, if_pos q2]
    rw [e0] at Q2 q2
    have nb : (E == 0) = false := by rw [beq_eq_false_iff_ne]; exact q2
    replace Q2 := Lib.hid Q2
    clear e0 hE q2
    clear Q3 Q4 Q5
    rw [rounds_succ]
    go_wp2_with (go_at_call 33; refine (Q2.out _ H2.out).mono ?_; rintro e w3 ⟨rfl, b3⟩)
    go_ret
    exact ⟨rfl, hB2.out.trans (b3.mono hB2.out.size)⟩
  replace hE := Lib.hid ((if_neg (by rw [q2]; decide)).symm.trans hE.out)
  rw [q2] at Q2
  replace Q2 := Lib.hid Q2
  rw [rounds_succ]
  have X3 := Lib.hid Q3
  clear Q3
  have X4 := Lib.hid Q4
  clear Q4
  have X5 := Lib.hid Q5
  clear Q5
  go_wp2_with (go_at_call 33; refine (Q2.out _ H2.out).mono ?_; rintro e w3 ⟨rfl, b3⟩)
  have Q3 := X3.out
  clear X3
  have Q4 := X4.out
  clear X4
  have Q5 := X5.out
  clear X5
  have hB3 := Lib.hid (hB2.out.trans (b3.mono hB2.out.size))
  have OX3 := Lib.hid (OX2.out.below b3 OX2.out.inside)
  have H3 := Lib.hid (H2.out.below b3)
  have K3 := Lib.hid (K2.out.below b3)
  clear b3 k2 hB2 OX2 H2 K2 Q2
  have k3 := OX3.out.read
  replace Q3 := Q3 z2
  by_cases q3 : firstE (loE g.l) g.l.length = 0
  case neg =>
    have e0 : firstE (loE g.l) g.l.length = E := by rw [← hE.out, if_pos q3]
    rw [e0] at Q3 q3
    have nb : (E == 0) = false := by rw [beq_eq_false_iff_ne]; exact q3
    replace Q3 := Lib.hid Q3
    clear e0 hE q3
    clear Q4 Q5
    rw [rounds_succ]
    go_wp2_with (go_at_call 34; refine (Q3.out _ H3.out).mono ?_; rintro e w4 ⟨rfl, b4⟩)
    go_ret
    exact ⟨rfl, hB3.out.trans (b4.mono hB3.out.size)⟩
  replace hE := Lib.hid ((if_neg (by rw [q3]; decide)).symm.trans hE.out)
  rw [q3] at Q3
  replace Q3 := Lib.hid Q3
  rw [rounds_succ]
  have X4 := Lib.hid Q4
  clear Q4
  have X5 := Lib.hid Q5
  clear Q5
  go_wp2_with (go_at_call 34; refine (Q3.out _ H3.out).mono ?_; rintro e w4 ⟨rfl, b4⟩)
  have Q4 := X4.out
  clear X4
  have Q5 := X5.out
  clear X5
  have hB4 := Lib.hid (hB3.out.trans (b4.mono hB3.out.size))
  have OX4 := Lib.hid (OX3.out.below b4 OX3.out.inside)
  have H4 := Lib.hid (H3.out.below b4)
  have K4 := Lib.hid (K3.out.below b4)
  clear b4 k3 hB3 OX3 H3 K3 Q3
  have k4 := OX4.out.read
  replace Q4 := Q4 z3 z2
  by_cases q4 : firstE (oqE g) g.o.length = 0
  case neg =>
    have e0 : firstE (oqE g) g.o.length = E := by rw [← hE.out, if_pos q4]
    rw [e0] at Q4 q4
    have nb : (E == 0) = false := by rw [beq_eq_false_iff_ne]; exact q4
    replace Q4 := Lib.hid Q4
    clear e0 hE q4
    clear Q5
    rw [rounds_succ]
    go_wp2_with (go_at_call 35; refine (Q4.out _ H4.out K4.out).mono ?_; rintro e w5 ⟨rfl, b5⟩)
    go_ret
    exact ⟨rfl, hB4.out.trans (b5.mono hB4.out.size)⟩
  replace hE := Lib.hid ((if_neg (by rw [q4]; decide)).symm.trans hE.out)
  rw [q4] at Q4
  replace Q4 := Lib.hid Q4
  rw [rounds_succ]
  have X5 := Lib.hid Q5
  clear Q5
  go_wp2_with (go_at_call 35; refine (Q4.out _ H4.out K4.out).mono ?_; rintro e w5 ⟨rfl, b5⟩)
  have Q5 := X5.out
  clear X5
  have hB5 := Lib.hid (hB4.out.trans (b5.mono hB4.out.size))
  have OX5 := Lib.hid (OX4.out.below b5 OX4.out.inside)
  have H5 := Lib.hid (H4.out.below b5)
  have K5 := Lib.hid (K4.out.below b5)
  clear b5 k4 hB4 OX4 H4 K4 Q4
  have k5 := OX5.out.read
  replace Q5 := Q5 z3 z4 (inLoops_of q4)
  by_cases q5 : firstE (chE g) g.h.length = 0
  case neg =>
    have e0 : firstE (chE g) g.h.length = E := hE.out
    rw [e0] at Q5 q5
    have nb : (E == 0) = false := by rw [beq_eq_false_iff_ne]; exact q5
    replace Q5 := Lib.hid Q5
    clear e0 hE q5
    rw [rounds_succ]
    go_wp2_with (go_at_call 36; refine (Q5.out _ H5.out).mono ?_; rintro e w6 ⟨rfl, b6⟩)
    go_ret
    exact ⟨rfl, hB5.out.trans (b6.mono hB5.out.size)⟩
  obtain rfl : 0 = E := by rw [← hE.out, q5]
  rw [q5] at Q5
  replace Q5 := Lib.hid Q5
  rw [rounds_succ]
  go_wp2_with (go_at_call 36; refine (Q5.out _ H5.out).mono ?_; rintro e w6 ⟨rfl, b6⟩)
  rw [rounds_succ]
  go_wp2_with fail
  go_ret
  exact ⟨rfl, hB5.out.trans (b6.mono hB5.out.size)⟩
end Go.Proofs.YtlbphlhbofjfgaaDoor.graph
