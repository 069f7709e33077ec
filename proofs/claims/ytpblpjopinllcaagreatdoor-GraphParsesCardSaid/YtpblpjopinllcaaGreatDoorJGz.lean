/-
  graph.Check (by gen_gc.py).
  What is wrong with a channel, by the document (by gen_gi.py).
  watershedref09.Check (by gen_gcr.py).
-/
import Derived.Test.YtpblpjopinllcaaGreatDoorJLayC
import Derived.Test.YtpblpjopinllcaaGreatDoorJGd
import Derived.Test.YtpblpjopinllcaaGreatDoorJGj
namespace Go.Proofs.YtpblpjopinllcaaGreatDoor.graph
open Go.ChangeShapes Go.WideShapes Go.ChangeAt Go.RowKit Go.Shelf
open Go.Proofs.YtpblpjopinllcaaGreatDoor.opened Go.Proofs.YtpblpjopinllcaaGreatDoor.block Go.Proofs.YtpblpjopinllcaaGreatDoor.words
theorem sizes_of {g : Gr} (h : sizesE g = 0) : g.c.length ≤ 4 ∧ g.l.length ≤ 6 ∧ g.o.length ≤ 24 ∧ g.h.length ≤ 48 ∧ 0 < g.c.length ∧ 0 < g.o.length := by
  unfold sizesE at h
  split at h
  · cases h
  · split at h
    · cases h
    · omega
theorem inLoops_of {g : Gr} (h : firstE (oqE g) g.o.length = 0) : InLoops g := by
  intro x hx hk
  obtain ⟨i, hi, e⟩ := List.getElem_of_mem hx
  have z := first_zero h i hi
  unfold oqE at z
  rw [List.getElem?_eq_getElem hi, e] at z
  dsimp only at z
  split at z
  · rename_i n0; exact absurd z n0
  · unfold opE at z
    split at z
    · cases z
    · split at z
      · cases z
      · split at z
        · cases z
        · rename_i hw
          have : whereB x.k x.l = true := by simpa using hw
          unfold whereB at this
          rw [if_neg (by omega), if_pos (by omega)] at this
          have := of_decide_eq_true this
          omega
set_option maxRecDepth 100000 in
set_option maxHeartbeats 2000000 in
theorem check_any (v : Gv) (g : Gr) (F : Fit v g) (I : g.In) (w : World) (h : Lies4 w v g) (K : KT w) :
    Calls Tryz.prog 23 #[gV v g] w fun e w' => e = .returned (.int .i64 (checkE g)) ∧ Below w.heap.size w w' := by
  have Q1 := sizes_any v g
  have Q2 := fun a => clusters_any v g F a
  have Q3 := fun a => loops_any v g F a
  have Q4 := fun a b => ops_any v g F I a b
  have Q5 := fun a b c => channels_any v g F a b c
  obtain ⟨va, vb, vd, ve, vi, vj, vk, vm⟩ := v
  unfold gV at Q1 Q2 Q3 Q4 Q5 ⊢
  dsimp only at Q1 Q2 Q3 Q4 Q5 ⊢
  have H := Lib.hid h
  have HK := Lib.hid K
  obtain ⟨E, hE⟩ : ∃ E, checkE g = E := ⟨_, rfl⟩
  rw [hE]
  unfold checkE at hE
  replace hE := Lib.hid hE
  have hB := Lib.hid (fresh1 w (.cells #[.slice va g.c.length vi, .slice vb g.l.length vj, .slice vd g.o.length vk, .slice ve g.h.length vm] 27))
  have OX := Lib.hid (Whole.fresh w 27 #[.slice va g.c.length vi, .slice vb g.l.length vj, .slice vd g.o.length vk, .slice ve g.h.length vm])
  have H1 := Lib.hid (h.below hB.out)
  have K1 := Lib.hid (K.below hB.out)
  clear h F K I H HK
  have IX0 : ∀ w : World, (Instr.index 156 (.agg #[.func (.func 86) #[] #[], .func (.func 87) #[] #[], .func (.func 88) #[] #[], .func (.func 89) #[] #[], .func (.func 90) #[] #[]]) (.int .i64 0)).run Tryz.prog w = .ok (.func (.func 86) #[] #[]) w := fun _ => by kernel_rfl
  have IX1 : ∀ w : World, (Instr.index 156 (.agg #[.func (.func 86) #[] #[], .func (.func 87) #[] #[], .func (.func 88) #[] #[], .func (.func 89) #[] #[], .func (.func 90) #[] #[]]) (.int .i64 1)).run Tryz.prog w = .ok (.func (.func 87) #[] #[]) w := fun _ => by kernel_rfl
  have IX2 : ∀ w : World, (Instr.index 156 (.agg #[.func (.func 86) #[] #[], .func (.func 87) #[] #[], .func (.func 88) #[] #[], .func (.func 89) #[] #[], .func (.func 90) #[] #[]]) (.int .i64 2)).run Tryz.prog w = .ok (.func (.func 88) #[] #[]) w := fun _ => by kernel_rfl
  have IX3 : ∀ w : World, (Instr.index 156 (.agg #[.func (.func 86) #[] #[], .func (.func 87) #[] #[], .func (.func 88) #[] #[], .func (.func 89) #[] #[], .func (.func 90) #[] #[]]) (.int .i64 3)).run Tryz.prog w = .ok (.func (.func 89) #[] #[]) w := fun _ => by kernel_rfl
  have IX4 : ∀ w : World, (Instr.index 156 (.agg #[.func (.func 86) #[] #[], .func (.func 87) #[] #[], .func (.func 88) #[] #[], .func (.func 89) #[] #[], .func (.func 90) #[] #[]]) (.int .i64 4)).run Tryz.prog w = .ok (.func (.func 90) #[] #[]) w := fun _ => by kernel_rfl
  go_enter Tryz.func23, Tryz.ntmps23
  go_upto_region 1 with fail
  change Code.wp _ _ _ _ (w.alloc (.cells #[.slice va g.c.length vi, .slice vb g.l.length vj, .slice vd g.o.length vk, .slice ve g.h.length vm] 27))
  generalize w.alloc (.cells #[.slice va g.c.length vi, .slice vb g.l.length vj, .slice vd g.o.length vk, .slice ve g.h.length vm] 27) = w1 at OX hB H1 K1 ⊢
  obtain ⟨gg, hgg⟩ : ∃ gg, w.heap.size = gg := ⟨_, rfl⟩
  rw [hgg] at OX ⊢
  clear hgg
  have k1 := OX.out.read
  go_wp2_with fail
  refine wp_loop_rounds 6 ?_
  by_cases q1 : sizesE g = 0
  case neg =>
    have e0 : sizesE g = E := by rw [← hE.out, if_pos q1]
    rw [e0] at Q1 q1
    have nb : (E == 0) = false := by rw [beq_eq_false_iff_ne]; exact q1
    replace Q1 := Lib.hid Q1
    clear e0 hE q1
    clear Q2 Q3 Q4 Q5
    rw [rounds_succ]
    go_wp2_with (go_at_call 86; refine (Q1.out _).mono ?_; rintro e w2 ⟨rfl, b2⟩)
    go_ret
    exact ⟨rfl, hB.out.trans (b2.mono hB.out.size)⟩
  replace hE := Lib.hid ((if_neg (by rw [q1]; decide)).symm.trans hE.out)
  rw [q1] at Q1
  replace Q1 := Lib.hid Q1
  rw [rounds_succ]
  have X2 := Lib.hid Q2
  clear Q2
  have X3 := Lib.hid Q3
  clear Q3
  have X4 := Lib.hid Q4
  clear Q4
  have X5 := Lib.hid Q5
  clear Q5
  go_wp2_with (go_at_call 86; refine (Q1.out _).mono ?_; rintro e w2 ⟨rfl, b2⟩)
  have Q2 := X2.out
  clear X2
  have Q3 := X3.out
  clear X3
  have Q4 := X4.out
  clear X4
  have Q5 := X5.out
  clear X5
  have hB2 := Lib.hid (hB.out.trans (b2.mono hB.out.size))
  have OX2 := Lib.hid (OX.out.below b2 OX.out.inside)
  have H2 := Lib.hid (H1.out.below b2)
  have K2 := Lib.hid (K1.out.below b2)
  clear b2 k1 hB OX H1 K1 Q1
  have k2 := OX2.out.read
  obtain ⟨z1, z2, z3, z4, -, -⟩ := sizes_of q1
  replace Q2 := Q2 z1
  by_cases q2 : firstE (clE g.c) g.c.length = 0
  case neg =>
    have e0 : firstE (clE g.c) g.c.length = E := by rw [← hE.out, if_pos q2]
    rw [e0] at Q2 q2
    have nb : (E == 0) = false := by rw [beq_eq_false_iff_ne]; exact q2
    replace Q2 := Lib.hid Q2
    clear e0 hE q2
    clear Q3 Q4 Q5
    rw [rounds_succ]
    go_wp2_with (go_at_call 87; refine (Q2.out _ H2.out).mono ?_; rintro e w3 ⟨rfl, b3⟩)
    go_ret
    exact ⟨rfl, hB2.out.trans (b3.mono hB2.out.size)⟩
  replace hE := Lib.hid ((if_neg (by rw [q2]; decide)).symm.trans hE.out)
  rw [q2] at Q2
  replace Q2 := Lib.hid Q2
  rw [rounds_succ]
  have X3 := Lib.hid Q3
  clear Q3
  have X4 := Lib.hid Q4
  clear Q4
  have X5 := Lib.hid Q5
  clear Q5
  go_wp2_with (go_at_call 87; refine (Q2.out _ H2.out).mono ?_; rintro e w3 ⟨rfl, b3⟩)
  have Q3 := X3.out
  clear X3
  have Q4 := X4.out
  clear X4
  have Q5 := X5.out
  clear X5
  have hB3 := Lib.hid (hB2.out.trans (b3.mono hB2.out.size))
  have OX3 := Lib.hid (OX2.out.below b3 OX2.out.inside)
  have H3 := Lib.hid (H2.out.below b3)
  have K3 := Lib.hid (K2.out.below b3)
  clear b3 k2 hB2 OX2 H2 K2 Q2
  have k3 := OX3.out.read
  replace Q3 := Q3 z2
  by_cases q3 : firstE (loE g.l) g.l.length = 0
  case neg =>
    have e0 : firstE (loE g.l) g.l.length = E := by rw [← hE.out, if_pos q3]
    rw [e0] at Q3 q3
    have nb : (E == 0) = false := by rw [beq_eq_false_iff_ne]; exact q3
    replace Q3 := Lib.hid Q3
    clear e0 hE q3
    clear Q4 Q5
    rw [rounds_succ]
    go_wp2_with (go_at_call 88; refine (Q3.out _ H3.out).mono ?_; rintro e w4 ⟨rfl, b4⟩)
    go_ret
    exact ⟨rfl, hB3.out.trans (b4.mono hB3.out.size)⟩
  replace hE := Lib.hid ((if_neg (by rw [q3]; decide)).symm.trans hE.out)
  rw [q3] at Q3
  replace Q3 := Lib.hid Q3
  rw [rounds_succ]
  have X4 := Lib.hid Q4
  clear Q4
  have X5 := Lib.hid Q5
  clear Q5
  go_wp2_with (go_at_call 88; refine (Q3.out _ H3.out).mono ?_; rintro e w4 ⟨rfl, b4⟩)
  have Q4 := X4.out
  clear X4
  have Q5 := X5.out
  clear X5
  have hB4 := Lib.hid (hB3.out.trans (b4.mono hB3.out.size))
  have OX4 := Lib.hid (OX3.out.below b4 OX3.out.inside)
  have H4 := Lib.hid (H3.out.below b4)
  have K4 := Lib.hid (K3.out.below b4)
  clear b4 k3 hB3 OX3 H3 K3 Q3
  have k4 := OX4.out.read
  replace Q4 := Q4 z3 z2
  by_cases q4 : firstE (oqE g) g.o.length = 0
  case neg =>
    have e0 : firstE (oqE g) g.o.length = E := by rw [← hE.out, if_pos q4]
    rw [e0] at Q4 q4
    have nb : (E == 0) = false := by rw [beq_eq_false_iff_ne]; exact q4
    replace Q4 := Lib.hid Q4
    clear e0 hE q4
    clear Q5
    rw [rounds_succ]
    go_wp2_with (go_at_call 89; refine (Q4.out _ H4.out K4.out).mono ?_; rintro e w5 ⟨rfl, b5⟩)
    go_ret
    exact ⟨rfl, hB4.out.trans (b5.mono hB4.out.size)⟩
  replace hE := Lib.hid ((if_neg (by rw [q4]; decide)).symm.trans hE.out)
  rw [q4] at Q4
  replace Q4 := Lib.hid Q4
  rw [rounds_succ]
  have X5 := Lib.hid Q5
  clear Q5
  go_wp2_with (go_at_call 89; refine (Q4.out _ H4.out K4.out).mono ?_; rintro e w5 ⟨rfl, b5⟩)
  have Q5 := X5.out
  clear X5
  have hB5 := Lib.hid (hB4.out.trans (b5.mono hB4.out.size))
  have OX5 := Lib.hid (OX4.out.below b5 OX4.out.inside)
  have H5 := Lib.hid (H4.out.below b5)
  have K5 := Lib.hid (K4.out.below b5)
  clear b5 k4 hB4 OX4 H4 K4 Q4
  have k5 := OX5.out.read
  replace Q5 := Q5 z3 z4 (inLoops_of q4)
  by_cases q5 : firstE (chE g) g.h.length = 0
  case neg =>
    have e0 : firstE (chE g) g.h.length = E := hE.out
    rw [e0] at Q5 q5
    have nb : (E == 0) = false := by rw [beq_eq_false_iff_ne]; exact q5
    replace Q5 := Lib.hid Q5
    clear e0 hE q5
    rw [rounds_succ]
    go_wp2_with (go_at_call 90; refine (Q5.out _ H5.out).mono ?_; rintro e w6 ⟨rfl, b6⟩)
    go_ret
    exact ⟨rfl, hB5.out.trans (b6.mono hB5.out.size)⟩
  obtain rfl : 0 = E := by rw [← hE.out, q5]
  rw [q5] at Q5
  replace Q5 := Lib.hid Q5
  rw [rounds_succ]
  go_wp2_with (go_at_call 90; refine (Q5.out _ H5.out).mono ?_; rintro e w6 ⟨rfl, b6⟩)
  rw [rounds_succ]
  go_wp2_with fail
  go_ret
  exact ⟨rfl, hB5.out.trans (b6.mono hB5.out.size)⟩
end Go.Proofs.YtpblpjopinllcaaGreatDoor.graph
namespace Go.Proofs.YtpblpjopinllcaaGreatDoor.graph
open Go.ChangeShapes Go.WideShapes Go.ChangeAt Go.RowKit
open Go.Proofs.YtpblpjopinllcaaGreatDoor.opened Go.Proofs.YtpblpjopinllcaaGreatDoor.block Go.Proofs.YtpblpjopinllcaaGreatDoor.words
theorem fieldsChR : (Tryz.prog.fieldsOf 142).toList.map (fun f => (f.name == "_", f.type, f.offset)) = [(false, 3, 0), (false, 3, 1)] := by kernel_rfl
theorem namesChR : ∃ f g : Field, (Tryz.prog.fieldsOf 142).toList = [f, g] ∧ f.name ≠ "_" ∧ f.type = 3 ∧ f.offset = 0 ∧ g.name ≠ "_" ∧ g.type = 3 ∧ g.offset = 1 := by
  have k := fieldsChR
  match hq : (Tryz.prog.fieldsOf 142).toList with
  | [f, g] =>
    rw [hq] at k
    simp at k
    obtain ⟨⟨a1, a2, a3⟩, b1, b2, b3⟩ := k
    exact ⟨f, g, rfl, a1, a2, a3, b1, b2, b3⟩
  | [] => rw [hq] at k; simp at k
  | [_] => rw [hq] at k; simp at k
  | _ :: _ :: _ :: _ => rw [hq] at k; simp at k
theorem descChR : Tryz.prog.underlying 142 = some (.struct (Tryz.prog.fieldsOf 142)) := by kernel_rfl
theorem stoodChR : Tryz.prog.stoodInHeld 142 = false := by kernel_rfl
set_option maxRecDepth 100000 in
theorem in_eqChR (p q : Ch) (w : World) : (Op.equalIn 10000 142 (.agg #[.int .i64 p.f, .int .i64 p.t]) (.agg #[.int .i64 q.f, .int .i64 q.t])).run Tryz.prog w = .ok (p.f == q.f && p.t == q.t) w := by
  obtain ⟨f, g, hl, f1, f2, f3, g1, g2, g3⟩ := namesChR
  rw [run_equalIn_struct w 9999 142 _ _ descChR stoodChR, hl]
  simp only [Op.eqFields, f1, g1, f2, g2, f3, g3, ne_eq, not_false_eq_true, if_true, Sem.run_bind]
  rw [run_part_plain w plainI (v := .int .i64 p.f) (by simp)]
  simp only [Result.andThen_ok]
  rw [run_part_plain w plainI (v := .int .i64 q.f) (by simp)]
  simp only [Result.andThen_ok]
  rw [run_equalIn_int w 9998 3 .i64 .i64 _ _ Tryz.underlying3]
  simp only [Result.andThen_ok]
  cases e0 : p.f == q.f
  · simp
  · simp only [Bool.not_true, Bool.false_eq_true, if_false, Sem.run_bind]
    rw [run_part_plain w plainI (v := .int .i64 p.t) (by simp)]
    simp only [Result.andThen_ok]
    rw [run_part_plain w plainI (v := .int .i64 q.t) (by simp)]
    simp only [Result.andThen_ok]
    rw [run_equalIn_int w 9998 3 .i64 .i64 _ _ Tryz.underlying3]
    simp only [Result.andThen_ok]
    cases e1 : p.t == q.t
    · simp
    · simp
set_option maxRecDepth 100000 in
set_option maxHeartbeats 1000000 in
theorem chR_any (v : Gv) (g : Gr) (h24 : g.o.length ≤ 24) (h48 : g.h.length ≤ 48) (IL : InLoops g) (i : Nat) (hi : i < g.h.length) (w : World) (h : Lies4 w v g) :
    Calls Tryz.prog 154 #[gV v g, .int .i64 i] w fun e w' => e = .returned (.int .i64 (chE g i)) ∧ Below w.heap.size w w' := by
  obtain ⟨va, vb, vd, ve, vi, vj, vk, vm⟩ := v
  unfold gV
  dsimp only
  have IH := Lib.hid IL
  obtain ⟨E, hE⟩ : ∃ E, chE g i = E := ⟨_, rfl⟩
  rw [hE]
  obtain ⟨x, hx⟩ : ∃ x, g.h[i]? = some x := ⟨g.h[i], List.getElem?_eq_getElem hi⟩
  obtain ⟨f, t⟩ := x
  have hcl : (if f < 0 ∨ (g.o.length : Int) ≤ f ∨ t < 0 ∨ (g.o.length : Int) ≤ t then 1 else if kindAt g f = 2 ∨ kindAt g t = 1 then 5 else if loopV g f.toNat true ≠ loopV g t.toNat false then 10 else if (⟨f, t⟩ : Ch) ∈ g.h.take i then 4 else 0) = E := by rw [← hE]; unfold chE; rw [hx]
  clear hE
  have hE := Lib.hid hcl
  have hB := Lib.hid (fresh1 w (.cells #[.slice va g.c.length vi, .slice vb g.l.length vj, .slice vd g.o.length vk, .slice ve g.h.length vm] 36))
  have OX := Lib.hid (Whole.fresh w 36 #[.slice va g.c.length vi, .slice vb g.l.length vj, .slice vd g.o.length vk, .slice ve g.h.length vm])
  have HR := Lib.hid (h.below hB.out)
  clear h IL hcl
  obtain ⟨b1, o1, hA, hb1, c0, c1⟩ := at_ch HR.out.h hx
  change ve = _ at hA
  subst hA
  dsimp only at c0 c1
  go_enter Tryz.func154, Tryz.ntmps154
  go_upto_region 1 with fail
  change Code.wp _ _ _ _ (w.alloc (.cells #[.slice va g.c.length vi, .slice vb g.l.length vj, .slice vd g.o.length vk, .slice (some ⟨b1, o1, none⟩) g.h.length vm] 36))
  generalize w.alloc (.cells #[.slice va g.c.length vi, .slice vb g.l.length vj, .slice vd g.o.length vk, .slice (some ⟨b1, o1, none⟩) g.h.length vm] 36) = wr at OX hB HR hb1 c0 c1 ⊢
  obtain ⟨gg, hgg⟩ : ∃ gg, w.heap.size = gg := ⟨_, rfl⟩
  rw [hgg] at OX ⊢
  clear hgg
  have k0 : wr.cell? ⟨gg, 3, none⟩ = some (.slice (some ⟨b1, o1, none⟩) g.h.length vm) := OX.out.read 3
  go_upto_region 2 with fail
  change Code.wp _ _ _ _ (wr.alloc (.cells #[.int .i64 f, .int .i64 t] 142))
  have hW := fresh1 wr (.cells #[.int .i64 f, .int .i64 t] 142)
  have OW := Lib.hid (Whole.fresh wr 142 #[.int .i64 f, .int .i64 t])
  have OG := Lib.hid (OX.out.below hW OX.out.inside)
  have H4 := Lib.hid (HR.out.below hW)
  have B4 := Lib.hid (hB.out.trans (hW.mono hB.out.size))
  clear OX HR hB hW c0 c1 hb1 k0
  generalize wr.alloc (.cells #[.int .i64 f, .int .i64 t] 142) = w4 at OW OG H4 B4 ⊢
  generalize wr.heap.size = r at OW ⊢
  have g2 : w4.cell? ⟨gg, 2, none⟩ = some (.slice vd g.o.length vk) := OG.out.read 2
  have r0 : w4.cell? ⟨r, 0, none⟩ = some (.int .i64 f) := OW.out.read 0
  have r1 : w4.cell? ⟨r, 1, none⟩ = some (.int .i64 t) := OW.out.read 1
  by_cases hf : f < 0 ∨ (g.o.length : Int) ≤ f ∨ t < 0 ∨ (g.o.length : Int) ≤ t
  · obtain rfl : 1 = E := by rw [← hE.out, if_pos hf]
    clear hE
    rcases Classical.em (f < 0) with a1 | a1
    · clear hf
      go_wp2_with fail
      go_ret
      exact ⟨rfl, B4.out⟩
    rcases Classical.em ((g.o.length : Int) ≤ f) with a2 | a2
    · clear hf
      go_wp2_with fail
      go_ret
      exact ⟨rfl, B4.out⟩
    rcases Classical.em (t < 0) with a3 | a3
    · clear hf
      go_wp2_with fail
      go_ret
      exact ⟨rfl, B4.out⟩
    have a4 : (g.o.length : Int) ≤ t := by omega
    clear hf
    go_wp2_with fail
    go_ret
    exact ⟨rfl, B4.out⟩
  replace hE := Lib.hid ((if_neg hf).symm.trans hE.out)
  obtain ⟨m, rfl⟩ : ∃ m : Nat, f = m := ⟨f.toNat, by omega⟩
  obtain ⟨n, rfl⟩ : ∃ n : Nat, t = n := ⟨t.toNat, by omega⟩
  have hm1 : m < g.o.length := by omega
  have hn1 : n < g.o.length := by omega
  obtain ⟨x1, hx1⟩ : ∃ x, g.o[m]? = some x := ⟨g.o[m], List.getElem?_eq_getElem hm1⟩
  obtain ⟨x2, hx2⟩ : ∃ x, g.o[n]? = some x := ⟨g.o[n], List.getElem?_eq_getElem hn1⟩
  obtain ⟨bo, oo, hA2, hbo, -, e1, -⟩ := at_oq H4.out.o hx1
  change vd = _ at hA2
  subst hA2
  obtain ⟨bo2, oo2, hA3, -, -, e2, -⟩ := at_oq H4.out.o hx2
  injection (Option.some.inj hA3) with hb2 ho2
  subst hb2 ho2
  clear hA3
  have hkm : kindAt g m = x1.k := by simp [kindAt, hx1]
  have hkn : kindAt g n = x2.k := by simp [kindAt, hx2]
  rw [hkm, hkn, Int.toNat_natCast, Int.toNat_natCast] at hE
  clear hkm hkn hf
  by_cases k1 : x1.k = 2
  · obtain rfl : 5 = E := by rw [← hE.out, if_pos (.inl k1)]
    rw [k1] at e1
    clear hE k1
    go_wp2_with fail
    go_ret
    exact ⟨rfl, B4.out⟩
  have f1 : (x1.k == 2) = false := by rw [beq_eq_false_iff_ne]; exact k1
  by_cases k2 : x2.k = 1
  · obtain rfl : 5 = E := by rw [← hE.out, if_pos (.inr k2)]
    rw [k2] at e2
    clear hE k1 k2
    go_wp2_with fail
    go_ret
    exact ⟨rfl, B4.out⟩
  have f2 : (x2.k == 1) = false := by rw [beq_eq_false_iff_ne]; exact k2
  replace hE := Lib.hid ((if_neg (by omega)).symm.trans hE.out)
  clear k1 k2
  go_upto_region 6 with fail
  clear e1 e2 r0 r1 g2 f1 f2
  have A : ∀ (p : Int) (b : Bool) (k : Nat) (x : Oq), g.o[k]? = some x → p = 2 * (k : Int) + (if b then 1 else 0) → ∀ y : Since w4, Calls Tryz.prog 177 #[.agg #[.slice va g.c.length vi, .slice vb g.l.length vj, .slice (some ⟨bo, oo, none⟩) g.o.length vk, .slice (some ⟨b1, o1, none⟩) g.h.length vm], .int .i64 p] y.1 fun e w' => e = .returned (.int .i64 (loopV g k b)) ∧ ∃ z : Since w4, w' = z.1 := fun p b k x hx hp y => since_at y (loopOf_walk ⟨va, vb, some ⟨bo, oo, none⟩, some ⟨b1, o1, none⟩, vi, vj, vk, vm⟩ g k x hx h24 (IH.out x (List.mem_of_getElem? hx)) p b hp y.1 (H4.out.below y.2))
  have L1 := A (2 * (m : Int) + 1) true m x1 hx1 rfl
  have L2 := A (2 * (n : Int)) false n x2 hx2 (by simp)
  clear A
  generalize loopV g m true = l1 at L1 hE
  generalize loopV g n false = l2 at L2 hE
  replace L1 := Lib.hid L1
  replace L2 := Lib.hid L2
  have s0 : ∀ y : Since w4, y.1.cell? ⟨r, 0, none⟩ = some (.int .i64 m) := fun y => (OW.out.below y.2 OW.out.inside).read 0
  have s1 : ∀ y : Since w4, y.1.cell? ⟨r, 1, none⟩ = some (.int .i64 n) := fun y => (OW.out.below y.2 OW.out.inside).read 1
  have t0 : ∀ y : Since w4, y.1.cell? ⟨gg, 0, none⟩ = some (.slice va g.c.length vi) := fun y => (OG.out.below y.2 OG.out.inside).read 0
  have t1 : ∀ y : Since w4, y.1.cell? ⟨gg, 1, none⟩ = some (.slice vb g.l.length vj) := fun y => (OG.out.below y.2 OG.out.inside).read 1
  have t2 : ∀ y : Since w4, y.1.cell? ⟨gg, 2, none⟩ = some (.slice (some ⟨bo, oo, none⟩) g.o.length vk) := fun y => (OG.out.below y.2 OG.out.inside).read 2
  have t3 : ∀ y : Since w4, y.1.cell? ⟨gg, 3, none⟩ = some (.slice (some ⟨b1, o1, none⟩) g.h.length vm) := fun y => (OG.out.below y.2 OG.out.inside).read 3
  clear hx1 hx2
  refine region_since w4 (by kernel_rfl) (by kernel_rfl) (Below.refl _ _) ?_
  repeat (go_big_quiet_step ((go_at_call 177; first | with_reducible exact L1.out _ | with_reducible exact L2.out _)))
  refine wpQuiet_nil ?_
  rintro w5 ⟨z, hz⟩
  have b5 : Below w4.heap.size w4 w5 := hz ▸ z.2
  have B5 := Lib.hid (B4.out.trans (b5.mono B4.out.size))
  have OG5 := Lib.hid (OG.out.below b5 OG.out.inside)
  have OW5 := Lib.hid (OW.out.below b5 OW.out.inside)
  have H5 := Lib.hid (H4.out.below b5)
  clear hz z s0 s1 t0 t1 t2 t3 L1 L2 b5 B4 OG OW H4
  by_cases hl : l1 = l2
  case neg =>
    obtain rfl : 10 = E := by rw [← hE.out, if_pos hl]
    have hl2 : (l1 == l2) = false := by rw [beq_eq_false_iff_ne]; exact hl
    clear hE
    go_wp2_with fail
    go_ret
    exact ⟨rfl, B5.out⟩
  subst hl
  replace hE := Lib.hid ((if_neg (by simp)).symm.trans hE.out)
  go_upto_region 8 with fail
  go_wp2_with fail
  go_loopw [6] (fun a wr => ∃ j : Nat, j ≤ i ∧ a = .int .i64 j ∧ Hid ((⟨m, n⟩ : Ch) ∉ g.h.take j) ∧ Hid (Below w5.heap.size w5 wr)) (fun a _ => (i - intOf a).toNat)
  case atStart => exact ⟨0, by omega, rfl, Lib.hid (by simp), Lib.hid (Below.refl _ _)⟩
  case round =>
    obtain ⟨j, hj, rfl, Z, D5⟩ := hrel
    replace B5 := Lib.hid (B5.out.trans (D5.out.mono B5.out.size))
    replace OG5 := Lib.hid (OG5.out.below D5.out OG5.out.inside)
    replace OW5 := Lib.hid (OW5.out.below D5.out OW5.out.inside)
    replace H5 := Lib.hid (H5.out.below D5.out)
    by_cases hin : j = i
    · obtain rfl : 0 = E := by rw [← hE.out, if_neg]; rw [← hin]; exact Z.out
      clear hE Z
      have hlt : ¬ ((j : Int) < i) := by omega
      go_wp2_with fail
      go_ret
      exact ⟨rfl, B5.out⟩
    · have hlt : j < i := by omega
      have hjl : j < g.h.length := by omega
      obtain ⟨⟨f, t⟩, hy⟩ : ∃ y, g.h[j]? = some y := ⟨g.h[j], List.getElem?_eq_getElem hjl⟩
      obtain ⟨b2, o2, hA4, hbw, d0, d1⟩ := at_ch H5.out.h hy
      injection (Option.some.inj hA4) with hb3 ho3
      subst hb3 ho3
      clear hA4
      dsimp only at d0 d1
      have hb1w : b1 < wr.heap.size := hbw
      have y0 : ∀ y : Since wr, y.1.cell? ⟨r, 0, none⟩ = some (.int .i64 m) := fun y => (OW5.out.below y.2 OW5.out.inside).read 0
      have y1 : ∀ y : Since wr, y.1.cell? ⟨r, 1, none⟩ = some (.int .i64 n) := fun y => (OW5.out.below y.2 OW5.out.inside).read 1
      have y3 : ∀ y : Since wr, y.1.cell? ⟨gg, 3, none⟩ = some (.slice (some ⟨b1, o1, none⟩) g.h.length vm) := fun y => (OG5.out.below y.2 OG5.out.inside).read 3
      have p0 : ∀ y : Since wr, y.1.cell? ⟨b1, o1 + j * 2, none⟩ = some (.int .i64 f) := fun y => (y.2.cell (p := ⟨b1, o1 + j * 2, none⟩) hb1w).trans d0
      have p1 : ∀ y : Since wr, y.1.cell? ⟨b1, o1 + j * 2 + 1, none⟩ = some (.int .i64 t) := fun y => (y.2.cell (p := ⟨b1, o1 + j * 2 + 1, none⟩) hb1w).trans d1
      clear d0 d1
      have HG : Tryz.prog.eqGuardType Tryz.prog.depth 142 = false := by kernel_rfl
      have Q : ∀ w : World, (Op.equalIn 10000 142 (.agg #[.int .i64 f, .int .i64 t]) (.agg #[.int .i64 m, .int .i64 n])).run Tryz.prog w = .ok (decide ((⟨f, t⟩ : Ch) = ⟨m, n⟩)) w := fun w => (in_eqChR ⟨f, t⟩ ⟨m, n⟩ w).trans (by
        congr 1
        rw [Bool.eq_iff_iff]
        simp)
      by_cases hq : (⟨f, t⟩ : Ch) = ⟨m, n⟩
      · obtain rfl : 4 = E := by rw [← hE.out, if_pos]; rw [← hq]; exact List.mem_of_getElem? (by rw [List.getElem?_take_of_lt hlt]; exact hy)
        rw [decide_eq_true hq] at Q
        clear hE Z hy hq
        go_upto_region 11 with fail
        refine region_since wr (by kernel_rfl) (by kernel_rfl) (Below.refl _ _) ?_
        repeat (go_big_quiet_step (fail))
        refine wpQuiet_nil ?_
        rintro w6 ⟨z, hz⟩
        have b6 : Below wr.heap.size wr w6 := hz ▸ z.2
        clear hz z y0 y1 y3 p0 p1 Q HG
        go_wp2_with fail
        go_ret
        exact ⟨rfl, B5.out.trans (b6.mono B5.out.size)⟩
      · have Z2 := Lib.hid (show (⟨m, n⟩ : Ch) ∉ g.h.take (j + 1) by
          rw [List.take_add_one, hy]
          simp only [Option.toList, List.mem_append, List.mem_singleton, not_or]
          exact ⟨Z.out, fun h => hq h.symm⟩)
        rw [decide_eq_false hq] at Q
        clear hE Z hy hq
        go_upto_region 11 with fail
        refine region_since wr (by kernel_rfl) (by kernel_rfl) (Below.refl _ _) ?_
        repeat (go_big_quiet_step (fail))
        refine wpQuiet_nil ?_
        rintro w6 ⟨z, hz⟩
        have b6 : Below wr.heap.size wr w6 := hz ▸ z.2
        clear hz z y0 y1 y3 p0 p1 Q HG
        go_wp2_with fail
        go_roundw
        case rel => exact ⟨j + 1, hlt, by go_num, Z2, Lib.hid (D5.out.trans (b6.mono D5.out.size))⟩
        case measure => simp [intOf]; omega
end Go.Proofs.YtpblpjopinllcaaGreatDoor.graph
namespace Go.Proofs.YtpblpjopinllcaaGreatDoor.graph
open Go.ChangeShapes Go.WideShapes Go.ChangeAt Go.RowKit
open Go.Proofs.YtpblpjopinllcaaGreatDoor.opened Go.Proofs.YtpblpjopinllcaaGreatDoor.block Go.Proofs.YtpblpjopinllcaaGreatDoor.words
theorem lg_ls {w : World} {A : Option Addr} {N : List Bs} (h : Ls w A N) : Lg 1 cSt w A N := by
  rcases h with h | ⟨b, off, hA, hb, hc⟩
  · left
    have : N = [] := by simpa using h
    subst this
    rfl
  · refine .inr ⟨b, off, hA, hb, fun i x hx => ?_⟩
    rw [List.getElem?_map, Option.map_eq_some_iff] at hx
    obtain ⟨y, hy, rfl⟩ := hx
    refine ⟨rfl, fun j hj => ?_⟩
    obtain rfl : j = 0 := by omega
    have := hc i (sV y) (by rw [List.getElem?_map, hy]; rfl)
    simpa [cSt] using this
theorem OwnS.away {w : World} {base gz : Nat} {v : Value} {N : List Bs} (h : OwnS w base v N) (hz : w.heap.size ≤ gz) : some gz ≠ v.ownBlock := by
  rcases h.2 with ⟨rfl, _⟩ | ⟨g, cap, cur, rfl, hb, hg, _⟩
  · simp [Value.ownBlock]
  · have := (Array.getElem?_eq_some_iff.1 hg).1
    simp [Value.ownBlock]
    omega
theorem names_next {α : Type} {L : List α} {f : α → Bs} {i : Nat} {x : α} (h : L[i]? = some x) : (L.take (i + 1)).map f = (L.take i).map f ++ [f x] := by
  rw [List.take_add_one, h]
  simp
set_option maxRecDepth 100000 in
set_option maxHeartbeats 4000000 in
theorem checkR_any (v : Gv) (g : Gr) (w : World) (h : Lies4 w v g) :
    Calls Tryz.prog 79 #[gV v g] w fun e w' => e = .returned (.int .i64 (checkE g)) ∧ Below w.heap.size w w' := by
  have QD := fun n hn hu i h0 h1 h6 => deepR_any v g n hn hu i h0 h1 h6
  have QO := opR_any v g
  have QC := fun h24 h48 IL i hi => chR_any v g h24 h48 IL i hi
  obtain ⟨va, vb, vd, ve, vi, vj, vk, vm⟩ := v
  unfold gV at QD QO QC ⊢
  dsimp only at QD QO QC ⊢
  replace QD := Lib.hid QD
  replace QO := Lib.hid QO
  replace QC := Lib.hid QC
  obtain ⟨E, hE⟩ : ∃ E, checkE g = E := ⟨_, rfl⟩
  rw [hE]
  unfold checkE at hE
  replace hE := Lib.hid hE
  have hB := Lib.hid (fresh1 w (.cells #[.slice va g.c.length vi, .slice vb g.l.length vj, .slice vd g.o.length vk, .slice ve g.h.length vm] 36))
  have OX := Lib.hid (Whole.fresh w 36 #[.slice va g.c.length vi, .slice vb g.l.length vj, .slice vd g.o.length vk, .slice ve g.h.length vm])
  have H1 := Lib.hid (h.below hB.out)
  clear h
  obtain ⟨i0, hi, hz0, hz1, hz2⟩ := infoS_parts
  go_enter Tryz.func79, Tryz.ntmps79
  go_upto_region 1 with fail
  change Code.wp _ _ _ _ (w.alloc (.cells #[.slice va g.c.length vi, .slice vb g.l.length vj, .slice vd g.o.length vk, .slice ve g.h.length vm] 36))
  generalize w.alloc (.cells #[.slice va g.c.length vi, .slice vb g.l.length vj, .slice vd g.o.length vk, .slice ve g.h.length vm] 36) = w1 at OX hB H1 ⊢
  obtain ⟨gg, hgg⟩ : ∃ gg, w.heap.size = gg := ⟨_, rfl⟩
  rw [hgg] at OX ⊢
  clear hgg
  have k := OX.out.read
  have k0 : w1.cell? ⟨gg, 0, none⟩ = some (.slice va g.c.length vi) := k 0
  have k1 : w1.cell? ⟨gg, 1, none⟩ = some (.slice vb g.l.length vj) := k 1
  have k2 : w1.cell? ⟨gg, 2, none⟩ = some (.slice vd g.o.length vk) := k 2
  have k3 : w1.cell? ⟨gg, 3, none⟩ = some (.slice ve g.h.length vm) := k 3
  clear k
  by_cases q1 : sizesE g = 0
  case neg =>
    have e0 : sizesE g = E := by rw [← hE.out, if_pos q1]
    have a0 : E ≠ 0 := e0 ▸ q1
    clear hE q1
    unfold sizesE at e0
    by_cases a : 4 < g.c.length ∨ 6 < g.l.length ∨ 24 < g.o.length ∨ 48 < g.h.length
    · obtain rfl : 7 = E := by rw [← e0, if_pos a]
      clear e0
      rcases Classical.em (4 < g.c.length) with a1 | a1
      · clear a; go_wp2_with fail
        go_ret
        exact ⟨rfl, hB.out⟩
      rcases Classical.em (6 < g.l.length) with a2 | a2
      · clear a; go_wp2_with fail
        go_ret
        exact ⟨rfl, hB.out⟩
      rcases Classical.em (24 < g.o.length) with a3 | a3
      · clear a; go_wp2_with fail
        go_ret
        exact ⟨rfl, hB.out⟩
      have a4 : 48 < g.h.length := by omega
      clear a; go_wp2_with fail
      go_ret
      exact ⟨rfl, hB.out⟩
    · have a1 : ¬ 4 < g.c.length := by omega
      have a2 : ¬ 6 < g.l.length := by omega
      have a3 : ¬ 24 < g.o.length := by omega
      have a4 : ¬ 48 < g.h.length := by omega
      rw [if_neg a] at e0
      by_cases b : g.c.length = 0 ∨ g.o.length = 0
      · obtain rfl : 3 = E := by rw [← e0, if_pos b]
        clear e0 a
        rcases Classical.em (g.c.length = 0) with b1 | b1
        · have b2 : ((g.c.length : Int) == 0) = true := by rw [beq_iff_eq]; omega
          clear b; go_wp2_with fail
          go_ret
          exact ⟨rfl, hB.out⟩
        · have b2 : ((g.c.length : Int) == 0) = false := by rw [beq_eq_false_iff_ne]; omega
          have b3 : ((g.o.length : Int) == 0) = true := by rw [beq_iff_eq]; omega
          clear b; go_wp2_with fail
          go_ret
          exact ⟨rfl, hB.out⟩
      · exfalso
        rw [if_neg b] at e0
        exact a0 e0.symm
  replace hE := Lib.hid ((if_neg (by rw [q1]; decide)).symm.trans hE.out)
  obtain ⟨z1, z2, z3, z4, z5, z6⟩ := sizes_of q1
  have a1 : ¬ 4 < g.c.length := by omega
  have a2 : ¬ 6 < g.l.length := by omega
  have a3 : ¬ 24 < g.o.length := by omega
  have a4 : ¬ 48 < g.h.length := by omega
  have b2 : ((g.c.length : Int) == 0) = false := by rw [beq_eq_false_iff_ne]; omega
  have b3 : ((g.o.length : Int) == 0) = false := by rw [beq_eq_false_iff_ne]; omega
  go_upto_region 6 with fail
  clear a1 a2 a3 a4 b2 b3 k0 k1 k2 k3
  go_wp2_with fail
  go_loopw [3, 4] (fun nv a wr => ∃ (i : Nat) (N : List Bs) (A : Option Addr) (c : Nat), i ≤ g.c.length ∧ Hid (N.length = i) ∧ a = .int .i64 i ∧ nv = .slice A i c ∧ Hid (N = (g.c.take i).map (·.n)) ∧ Hid (firstE (clE g.c) i = 0) ∧ Hid (OwnS wr w1.heap.size (.slice A i c) N) ∧ Hid (Below w1.heap.size w1 wr)) (fun _ a _ => (g.c.length - intOf a).toNat)
  case atStart => exact ⟨0, [], none, 0, by omega, Lib.hid rfl, rfl, rfl, Lib.hid rfl, Lib.hid rfl, Lib.hid (ownS_nil _ _), Lib.hid (Below.refl _ _)⟩
  case round =>
    obtain ⟨i, N, A, c, hil, hNi, rfl, rfl, HN, Z, HO, Br⟩ := hrel
    have hsz := Br.out.size
    have BB := Lib.hid (hB.out.trans (Br.out.mono hB.out.size))
    have OG := Lib.hid (OX.out.below Br.out OX.out.inside)
    have HR := Lib.hid (H1.out.below Br.out)
    have k0 : wr.cell? ⟨gg, 0, none⟩ = some (.slice va g.c.length vi) := OG.out.read 0
    by_cases hin : i = g.c.length
    case neg =>
      have hlt : i < g.c.length := by omega
      obtain ⟨x, hx⟩ : ∃ x, g.c[i]? = some x := ⟨g.c[i], List.getElem?_eq_getElem hlt⟩
      obtain ⟨b1, o1, hA, hb1, c0, c1⟩ := at_cl HR.out.c hx
      change va = _ at hA
      subst hA
      have NM := fun w (hw : Lg 1 cSt w A N) => nameR9_any x.n A c N (by rw [hNi.out]; omega) w hw
      rw [hNi.out] at NM
      have hcl : clE g.c i = if nameE N x.n ≠ 0 then nameE N x.n else if x.w < 1 ∨ 4 < x.w then 1 else 0 := by unfold clE; rw [hx]; dsimp only; rw [HN.out]
      have HN2 : Hid (N ++ [x.n] = (g.c.take (i + 1)).map (·.n)) := Lib.hid (by rw [names_next hx, HN.out])
      generalize nameE N x.n = m at NM hcl
      replace NM := Lib.hid NM
      replace hcl := Lib.hid hcl
      go_upto_region 10 with (go_at_call 151; refine (NM.out _ (lg_ls HO.out.lies)).mono ?_; rintro e w3 ⟨rfl, b3⟩)
      clear k0 c0 c1
      have B3 := Lib.hid (BB.out.trans (b3.mono BB.out.size))
      have D3 := Lib.hid (Br.out.trans (b3.mono hsz))
      have hs3 := D3.out.size
      have HO3 := Lib.hid (HO.out.below b3)
      clear b3 NM HO HR OG BB Br
      by_cases hm : m = 0
      case neg =>
        obtain rfl : m = E := by rw [← hE.out, if_pos (by rw [first_stop Z.out (by rw [hcl.out, if_pos hm]; exact hm) _ hlt, hcl.out, if_pos hm]; exact hm), first_stop Z.out (by rw [hcl.out, if_pos hm]; exact hm) _ hlt, hcl.out, if_pos hm]
        have nb : (m == 0) = false := by rw [beq_eq_false_iff_ne]; exact hm
        clear hcl Z hE
        go_wp2_with fail
        go_ret
        exact ⟨rfl, B3.out⟩
      subst hm
      replace hcl := Lib.hid (hcl.out.trans (if_neg (by simp)))
      have k0 : w3.cell? ⟨gg, 0, none⟩ = some (.slice (some ⟨b1, o1, none⟩) g.c.length vi) := (OX.out.below D3.out OX.out.inside).read 0
      obtain ⟨b1', o1', hA', hb1', c0, -⟩ := at_cl (H1.out.below D3.out).c hx
      injection (Option.some.inj hA') with e1 e2
      subst e1 e2
      go_upto_region 13 with (at_builtin; refine wpList_append_own _ rfl _ _ 126 rfl w1.heap.size 9 i0 (.string ByteArray.empty) 1 16 Tryz.underlying126 hi hz0 hz1 hz2 rfl (by decide) _ _ _ rfl (HO3.out.below (fresh1 _ (.cells #[sV x.n] 9))) ⟨_, 0, none⟩ 1 1 [sV x.n] rfl rfl (cell_new1 _ _ _) (oneS _) (by have := hNi.out; unfold maxLen; omega) (by have := hNi.out; omega) (by simp; omega) ?_; intro v' w5 hown' hgrow _; obtain ⟨g', cap', rfl⟩ := ownS_succ hown'; have b5 := Lib.hid (HO3.out.grown hs3 hgrow); have HO5 := Lib.hid (show OwnS w5 w1.heap.size (.slice (some ⟨g', 0, none⟩) (N ++ [x.n]).length cap') (N ++ [x.n]) by have := hown'; simpa [OwnS] using this); clear hown' hgrow)
      have D5 := Lib.hid (D3.out.trans b5.out)
      have B5 := Lib.hid (hB.out.trans (D5.out.mono hB.out.size))
      clear k0 c0 hb1' hA' HO3 b5 D3 B3 hs3
      have k0 : w5.cell? ⟨gg, 0, none⟩ = some (.slice (some ⟨b1, o1, none⟩) g.c.length vi) := (OX.out.below D5.out OX.out.inside).read 0
      obtain ⟨b1', o1', hA', hb1', -, c1⟩ := at_cl (H1.out.below D5.out).c hx
      injection (Option.some.inj hA') with e1 e2
      subst e1 e2
      by_cases aw : x.w < 1 ∨ 4 < x.w
      · have hs1 : firstE (clE g.c) g.c.length = 1 := by rw [first_stop Z.out (by rw [hcl.out, if_pos aw]; decide) _ hlt, hcl.out, if_pos aw]
        obtain rfl : 1 = E := by rw [← hE.out, if_pos (by rw [hs1]; decide), hs1]
        clear hcl Z hE hs1
        rcases Classical.em (x.w < 1) with a1 | a1
        · clear aw; go_wp2_with fail
          go_ret
          exact ⟨rfl, B5.out⟩
        · have a2 : 4 < x.w := by omega
          clear aw; go_wp2_with fail
          go_ret
          exact ⟨rfl, B5.out⟩
      · have a1 : ¬ x.w < 1 := by omega
        have a2 : ¬ 4 < x.w := by omega
        have Z2 := Lib.hid ((first_next Z.out).trans (by rw [hcl.out, if_neg aw]))
        clear hcl Z aw
        go_wp2_with fail
        go_roundw
        case rel => exact ⟨i + 1, N ++ [x.n], some ⟨g', 0, none⟩, cap', hlt, Lib.hid (by simp [hNi.out]), by go_num, by rw [hNi.out], HN2, Z2, by have := HO5.out; rw [List.length_append, hNi.out] at this; exact Lib.hid this, D5⟩
        case measure => simp [intOf]; omega
    subst hin
    have q2 := Z.out
    replace hE := Lib.hid ((if_neg (by rw [q2]; decide)).symm.trans hE.out)
    clear Z HN hNi HR
    have hlt : ¬ ((g.c.length : Int) < g.c.length) := by omega
    go_upto_region 16 with fail
    clear k0 hlt HO
    go_wp2_with fail
    go_loopw [3, 6] (fun nv a wr => ∃ (i : Nat) (N : List Bs) (A : Option Addr) (c : Nat), i ≤ g.l.length ∧ Hid (N.length = i) ∧ a = .int .i64 i ∧ nv = .slice A i c ∧ Hid (N = (g.l.take i).map (·.n)) ∧ Hid (firstE (loE g.l) i = 0) ∧ Hid (OwnS wr w1.heap.size (.slice A i c) N) ∧ Hid (Below w1.heap.size w1 wr)) (fun _ a _ => (g.l.length - intOf a).toNat)
    case atStart => exact ⟨0, [], none, 0, by omega, Lib.hid rfl, rfl, rfl, Lib.hid rfl, Lib.hid rfl, Lib.hid (ownS_nil _ _), Br⟩
    case round =>
      clear hsz BB OG Br
      obtain ⟨i, N, A, c, hil, hNi, rfl, rfl, HN, Z, HO, Br⟩ := hrel
      have hsz := Br.out.size
      have BB := Lib.hid (hB.out.trans (Br.out.mono hB.out.size))
      have k0 : wr.cell? ⟨gg, 1, none⟩ = some (.slice vb g.l.length vj) := (OX.out.below Br.out OX.out.inside).read 1
      by_cases hin : i = g.l.length
      case neg =>
        have hlt : i < g.l.length := by omega
        obtain ⟨x, hx⟩ : ∃ x, g.l[i]? = some x := ⟨g.l[i], List.getElem?_eq_getElem hlt⟩
        obtain ⟨b1, o1, hA, hb1, c0, c1, c2⟩ := at_lo (H1.out.below Br.out).l hx
        change vb = _ at hA
        subst hA
        have NM := fun w (hw : Lg 1 cSt w A N) => nameR9_any x.n A c N (by rw [hNi.out]; omega) w hw
        rw [hNi.out] at NM
        have hcl : loE g.l i = if nameE N x.n ≠ 0 then nameE N x.n else if x.u < -1 ∨ (i : Int) ≤ x.u ∨ x.r < 1 ∨ 8 < x.r then 1 else if 3 < deepL g.l i then 10 else 0 := by unfold loE; rw [hx]; dsimp only; rw [HN.out]
        have HN2 : Hid (N ++ [x.n] = (g.l.take (i + 1)).map (·.n)) := Lib.hid (by rw [names_next hx, HN.out])
        generalize nameE N x.n = m at NM hcl
        replace NM := Lib.hid NM
        replace hcl := Lib.hid hcl
        go_upto_region 20 with fail
        change Code.wp _ _ _ _ (wr.alloc (.cells #[sV x.n, .int .i64 x.u, .int .i64 x.r] 139))
        have hW := fresh1 wr (.cells #[sV x.n, .int .i64 x.u, .int .i64 x.r] 139)
        have OW := Lib.hid (Whole.fresh wr 139 #[sV x.n, .int .i64 x.u, .int .i64 x.r])
        have HOW := Lib.hid (HO.out.below hW)
        have HAW := Lib.hid (OwnS.away HO.out (Nat.le_refl _))
        have DW := Lib.hid (Br.out.trans (hW.mono hsz))
        have BW := Lib.hid (BB.out.trans (hW.mono BB.out.size))
        clear hW c0 c1 c2 k0 HO Br BB
        generalize wr.alloc (.cells #[sV x.n, .int .i64 x.u, .int .i64 x.r] 139) = w2 at OW HOW DW BW ⊢
        have hr0 : w1.heap.size ≤ wr.heap.size := hsz
        generalize wr.heap.size = r at OW hr0 hb1 HAW ⊢
        have r0 : w2.cell? ⟨r, 0, none⟩ = some (sV x.n) := OW.out.read 0
        go_upto_region 21 with (go_at_call 151; refine (NM.out _ (lg_ls HOW.out.lies)).mono ?_; rintro e w3 ⟨rfl, b3⟩)
        clear r0
        have B3 := Lib.hid (BW.out.trans (b3.mono BW.out.size))
        have D3 := Lib.hid (DW.out.trans (b3.mono DW.out.size))
        have hs3 := D3.out.size
        have HO3 := Lib.hid (HOW.out.below b3)
        have OW3 := Lib.hid (OW.out.below b3 OW.out.inside)
        clear b3 NM HOW OW BW DW
        by_cases hm : m = 0
        case neg =>
          have hs1 : firstE (loE g.l) g.l.length = m := by rw [first_stop Z.out (by rw [hcl.out, if_pos hm]; exact hm) _ hlt, hcl.out, if_pos hm]
          obtain rfl : m = E := by rw [← hE.out, if_pos (by rw [hs1]; exact hm), hs1]
          have nb : (m == 0) = false := by rw [beq_eq_false_iff_ne]; exact hm
          clear hcl Z hE hs1
          go_wp2_with fail
          go_ret
          exact ⟨rfl, B3.out⟩
        subst hm
        replace hcl := Lib.hid (hcl.out.trans (if_neg (by simp)))
        have r0 : w3.cell? ⟨r, 0, none⟩ = some (sV x.n) := OW3.out.read 0
        go_upto_region 24 with (at_builtin; refine wpList_append_own _ rfl _ _ 126 rfl w1.heap.size 9 i0 (.string ByteArray.empty) 1 16 Tryz.underlying126 hi hz0 hz1 hz2 rfl (by decide) _ _ _ rfl (HO3.out.below (fresh1 _ (.cells #[sV x.n] 9))) ⟨_, 0, none⟩ 1 1 [sV x.n] rfl rfl (cell_new1 _ _ _) (oneS _) (by have := hNi.out; unfold maxLen; omega) (by have := hNi.out; omega) (by simp; omega) ?_; intro v' w5 hown' hgrow _; obtain ⟨g', cap', rfl⟩ := ownS_succ hown'; have b5 := Lib.hid (HO3.out.grown hs3 hgrow); have hgw := Lib.hid hgrow; have HO5 := Lib.hid (show OwnS w5 w1.heap.size (.slice (some ⟨g', 0, none⟩) (N ++ [x.n]).length cap') (N ++ [x.n]) by have := hown'; simpa [OwnS] using this); clear hown' hgrow)
        have hra : r < w3.heap.size := OW3.out.inside
        have D5 := Lib.hid (D3.out.trans b5.out)
        have B5 := Lib.hid (hB.out.trans (D5.out.mono hB.out.size))
        have OW5 := Lib.hid ((OW3.out.alloc _).grown hgw.out HAW.out)
        clear r0 HO3 b5 D3 B3 hs3 OW3
        have r1 : w5.cell? ⟨r, 1, none⟩ = some (.int .i64 x.u) := OW5.out.read 1
        have r2 : w5.cell? ⟨r, 2, none⟩ = some (.int .i64 x.r) := OW5.out.read 2
        by_cases a : x.u < -1 ∨ (i : Int) ≤ x.u ∨ x.r < 1 ∨ 8 < x.r
        · have hs1 : firstE (loE g.l) g.l.length = 1 := by rw [first_stop Z.out (by rw [hcl.out, if_pos a]; decide) _ hlt, hcl.out, if_pos a]
          obtain rfl : 1 = E := by rw [← hE.out, if_pos (by rw [hs1]; decide), hs1]
          clear hcl Z hE hs1
          rcases Classical.em (x.u < -1) with a1 | a1
          · clear a; go_wp2_with fail
            go_ret
            exact ⟨rfl, B5.out⟩
          rcases Classical.em ((i : Int) ≤ x.u) with a2 | a2
          · clear a; go_wp2_with fail
            go_ret
            exact ⟨rfl, B5.out⟩
          rcases Classical.em (x.r < 1) with a3 | a3
          · clear a; go_wp2_with fail
            go_ret
            exact ⟨rfl, B5.out⟩
          have a4 : 8 < x.r := by omega
          clear a
          go_wp2_with fail
          go_ret
          exact ⟨rfl, B5.out⟩
        · replace hcl := Lib.hid (hcl.out.trans (if_neg a))
          have a1 : ¬ x.u < -1 := by omega
          have a2 : ¬ (i : Int) ≤ x.u := by omega
          have a3 : ¬ x.r < 1 := by omega
          have a4 : ¬ 8 < x.r := by omega
          clear a
          have HU : UpOk g.l (i + 1) := fun j y hj hy => by
            by_cases hji : j = i
            · subst hji
              rw [hx] at hy
              cases hy
              omega
            · exact up_of Z.out j y (by omega) hy
          have DE := QD.out (i + 1) hlt HU i (by omega) (by omega) z2 w5 (H1.out.below D5.out)
          have hd : deepL g.l i ≤ 7 := by
            have := deep_le HU ((i : Int) + 1).toNat i (by omega) (by omega)
            unfold deepL
            omega
          have k := (OX.out.below D5.out OX.out.inside).read
          have k0 : w5.cell? ⟨gg, 0, none⟩ = some (.slice va g.c.length vi) := k 0
          have k1 : w5.cell? ⟨gg, 1, none⟩ = some (.slice (some ⟨b1, o1, none⟩) g.l.length vj) := k 1
          have k2 : w5.cell? ⟨gg, 2, none⟩ = some (.slice vd g.o.length vk) := k 2
          have k3 : w5.cell? ⟨gg, 3, none⟩ = some (.slice ve g.h.length vm) := k 3
          clear k
          generalize deepL g.l i = dd at DE hcl hd
          replace DE := Lib.hid DE
          clear HU
          by_cases a5 : 3 < dd
          · have hs1 : firstE (loE g.l) g.l.length = 10 := by rw [first_stop Z.out (by rw [hcl.out, if_pos a5]; decide) _ hlt, hcl.out, if_pos a5]
            obtain rfl : 10 = E := by rw [← hE.out, if_pos (by rw [hs1]; decide), hs1]
            clear hcl Z hE hs1
            go_wp2_with (go_at_call 152; refine DE.out.mono ?_; rintro e w6 ⟨rfl, b6⟩)
            go_ret
            exact ⟨rfl, B5.out.trans (b6.mono B5.out.size)⟩
          · have Z2 := Lib.hid ((first_next Z.out).trans (by rw [hcl.out, if_neg a5]))
            clear hcl Z
            go_wp2_with (go_at_call 152; refine DE.out.mono ?_; rintro e w6 ⟨rfl, b6⟩)
            go_roundw
            case rel => exact ⟨i + 1, N ++ [x.n], some ⟨g', 0, none⟩, cap', hlt, Lib.hid (by simp [hNi.out]), by go_num, by rw [hNi.out], HN2, Z2, by have := HO5.out.below b6; rw [List.length_append, hNi.out] at this; exact Lib.hid this, Lib.hid (D5.out.trans (b6.mono D5.out.size))⟩
            case measure => simp [intOf]; omega
      subst hin
      have q3 := Z.out
      replace hE := Lib.hid ((if_neg (by rw [q3]; decide)).symm.trans hE.out)
      clear Z HN hNi
      have hlt : ¬ ((g.l.length : Int) < g.l.length) := by omega
      go_upto_region 29 with fail
      clear k0 hlt HO
      go_wp2_with fail
      go_loopw [3, 9] (fun nv a wr => ∃ (i : Nat) (N : List Bs) (A : Option Addr) (c : Nat), i ≤ g.o.length ∧ Hid (N.length = i) ∧ a = .int .i64 i ∧ nv = .slice A i c ∧ Hid (N = (g.o.take i).map (·.n)) ∧ Hid (firstE (oqE g) i = 0) ∧ Hid (OwnS wr w1.heap.size (.slice A i c) N) ∧ Hid (Below w1.heap.size w1 wr)) (fun _ a _ => (g.o.length - intOf a).toNat)
      case atStart => exact ⟨0, [], none, 0, by omega, Lib.hid rfl, rfl, rfl, Lib.hid rfl, Lib.hid rfl, Lib.hid (ownS_nil _ _), Br⟩
      case round =>
        clear hsz BB Br
        obtain ⟨i, N, A, c, hil, hNi, rfl, rfl, HN, Z, HO, Br⟩ := hrel
        have hsz := Br.out.size
        have BB := Lib.hid (hB.out.trans (Br.out.mono hB.out.size))
        have k0 : wr.cell? ⟨gg, 2, none⟩ = some (.slice vd g.o.length vk) := (OX.out.below Br.out OX.out.inside).read 2
        by_cases hin : i = g.o.length
        case neg =>
          have hlt : i < g.o.length := by omega
          obtain ⟨x, hx⟩ : ∃ x, g.o[i]? = some x := ⟨g.o[i], List.getElem?_eq_getElem hlt⟩
          obtain ⟨b1, o1, hA, hb1, c0, -⟩ := at_oq (H1.out.below Br.out).o hx
          change vd = _ at hA
          subst hA
          have NM := fun w (hw : Lg 1 cSt w A N) => nameR9_any x.n A c N (by rw [hNi.out]; omega) w hw
          rw [hNi.out] at NM
          have hcl : oqE g i = if nameE N x.n ≠ 0 then nameE N x.n else opE g x := by unfold oqE; rw [hx]; dsimp only; rw [HN.out]
          have HN2 : Hid (N ++ [x.n] = (g.o.take (i + 1)).map (·.n)) := Lib.hid (by rw [names_next hx, HN.out])
          have OC := QO.out x.n x.k x.l x.a x.x x.y
          have hxe : (⟨x.n, x.k, x.l, x.a, x.x, x.y⟩ : Oq) = x := rfl
          rw [hxe] at OC
          generalize opE g x = oe at OC hcl
          generalize nameE N x.n = m at NM hcl
          replace NM := Lib.hid NM
          replace OC := Lib.hid OC
          replace hcl := Lib.hid hcl
          go_upto_region 33 with (go_at_call 151; refine (NM.out _ (lg_ls HO.out.lies)).mono ?_; rintro e w3 ⟨rfl, b3⟩)
          clear k0 c0
          have B3 := Lib.hid (BB.out.trans (b3.mono BB.out.size))
          have D3 := Lib.hid (Br.out.trans (b3.mono hsz))
          have hs3 := D3.out.size
          have HO3 := Lib.hid (HO.out.below b3)
          clear b3 NM HO BB Br
          by_cases hm : m = 0
          case neg =>
            have hs1 : firstE (oqE g) g.o.length = m := by rw [first_stop Z.out (by rw [hcl.out, if_pos hm]; exact hm) _ hlt, hcl.out, if_pos hm]
            obtain rfl : m = E := by rw [← hE.out, if_pos (by rw [hs1]; exact hm), hs1]
            have nb : (m == 0) = false := by rw [beq_eq_false_iff_ne]; exact hm
            clear hcl Z hE hs1
            go_wp2_with fail
            go_ret
            exact ⟨rfl, B3.out⟩
          subst hm
          replace hcl := Lib.hid (hcl.out.trans (if_neg (by simp)))
          go_upto_region 34 with fail
          have k := fun (y : Since w3) => (OX.out.below (D3.out.trans (y.2.mono hs3)) OX.out.inside).read
          have t0 : ∀ y : Since w3, y.1.cell? ⟨gg, 0, none⟩ = some (.slice va g.c.length vi) := fun y => k y 0
          have t1 : ∀ y : Since w3, y.1.cell? ⟨gg, 1, none⟩ = some (.slice vb g.l.length vj) := fun y => k y 1
          have t2 : ∀ y : Since w3, y.1.cell? ⟨gg, 2, none⟩ = some (.slice (some ⟨b1, o1, none⟩) g.o.length vk) := fun y => k y 2
          have t3 : ∀ y : Since w3, y.1.cell? ⟨gg, 3, none⟩ = some (.slice ve g.h.length vm) := fun y => k y 3
          clear k
          have P := fun (y : Since w3) => at_oq (H1.out.below (D3.out.trans (y.2.mono hs3))).o hx
          have P2 : ∀ y : Since w3, y.1.cell? ⟨b1, o1 + i * 6, none⟩ = some (sV x.n) ∧ y.1.cell? ⟨b1, o1 + i * 6 + 1, none⟩ = some (.int .i64 x.k) ∧ y.1.cell? ⟨b1, o1 + i * 6 + 2, none⟩ = some (.int .i64 x.l) ∧ y.1.cell? ⟨b1, o1 + i * 6 + 3, none⟩ = some (.int .i64 x.a) ∧ y.1.cell? ⟨b1, o1 + i * 6 + 4, none⟩ = some (.int .i64 x.x) ∧ y.1.cell? ⟨b1, o1 + i * 6 + 5, none⟩ = some (.int .i64 x.y) := fun y => by
            obtain ⟨b, o, hA, hb, hp⟩ := P y
            injection (Option.some.inj hA) with e1 e2
            subst e1 e2
            exact hp
          have p0 := fun y => (P2 y).1
          have p1 := fun y => (P2 y).2.1
          have p2 := fun y => (P2 y).2.2.1
          have p3 := fun y => (P2 y).2.2.2.1
          have p4 := fun y => (P2 y).2.2.2.2.1
          have p5 := fun y => (P2 y).2.2.2.2.2
          clear P P2
          refine region_since w3 (by kernel_rfl) (by kernel_rfl) (Below.refl _ _) ?_
          repeat (go_big_quiet_step ((go_at_call 153; with_reducible exact since_call OC.out _)))
          refine wpQuiet_nil ?_
          rintro w4 ⟨y, hw⟩
          have b4 : Below w3.heap.size w3 w4 := hw ▸ y.2
          clear hw y t0 t1 t2 t3 p0 p1 p2 p3 p4 p5
          replace B3 := Lib.hid (B3.out.trans (b4.mono B3.out.size))
          replace D3 := Lib.hid (D3.out.trans (b4.mono hs3))
          replace HO3 := Lib.hid (HO3.out.below b4)
          replace hs3 := D3.out.size
          clear b4 OC
          by_cases hm : oe = 0
          case neg =>
            have hs1 : firstE (oqE g) g.o.length = oe := by rw [first_stop Z.out (by rw [hcl.out]; exact hm) _ hlt, hcl.out]
            obtain rfl : oe = E := by rw [← hE.out, if_pos (by rw [hs1]; exact hm), hs1]
            have nb : (oe == 0) = false := by rw [beq_eq_false_iff_ne]; exact hm
            clear hcl Z hE hs1
            go_wp2_with fail
            go_ret
            exact ⟨rfl, B3.out⟩
          subst hm
          have k0 : w4.cell? ⟨gg, 2, none⟩ = some (.slice (some ⟨b1, o1, none⟩) g.o.length vk) := (OX.out.below D3.out OX.out.inside).read 2
          obtain ⟨b1', o1', hA', hb1', c0, -⟩ := at_oq (H1.out.below D3.out).o hx
          injection (Option.some.inj hA') with e1 e2
          subst e1 e2
          have Z2 := Lib.hid ((first_next Z.out).trans hcl.out)
          clear hcl Z
          go_upto_region 37 with fail
          go_wp2_with (at_builtin; refine wpList_append_own _ rfl _ _ 126 rfl w1.heap.size 9 i0 (.string ByteArray.empty) 1 16 Tryz.underlying126 hi hz0 hz1 hz2 rfl (by decide) _ _ _ rfl (HO3.out.below (fresh1 _ (.cells #[sV x.n] 9))) ⟨_, 0, none⟩ 1 1 [sV x.n] rfl rfl (cell_new1 _ _ _) (oneS _) (by have := hNi.out; unfold maxLen; omega) (by have := hNi.out; omega) (by simp; omega) ?_; intro v' w5 hown' hgrow _; obtain ⟨g', cap', rfl⟩ := ownS_succ hown'; have b5 := Lib.hid (HO3.out.grown hs3 hgrow); have HO5 := Lib.hid (show OwnS w5 w1.heap.size (.slice (some ⟨g', 0, none⟩) (N ++ [x.n]).length cap') (N ++ [x.n]) by have := hown'; simpa [OwnS] using this); clear hown' hgrow)
          go_roundw
          case rel => exact ⟨i + 1, N ++ [x.n], some ⟨g', 0, none⟩, cap', hlt, Lib.hid (by simp [hNi.out]), by go_num, by rw [hNi.out], HN2, Z2, by have := HO5.out; rw [List.length_append, hNi.out] at this; exact Lib.hid this, Lib.hid (D3.out.trans b5.out)⟩
          case measure => simp [intOf]; omega
        subst hin
        have q4 := Z.out
        replace hE := Lib.hid ((if_neg (by rw [q4]; decide)).symm.trans hE.out)
        clear Z HN hNi
        have hlt : ¬ ((g.o.length : Int) < g.o.length) := by omega
        go_upto_region 38 with fail
        clear k0 hlt HO
        go_wp2_with fail
        have QC1 := Lib.hid (QC.out z3 z4 (inLoops_of q4))
        go_loopw [11] (fun a wr => ∃ (i : Nat), i ≤ g.h.length ∧ a = .int .i64 i ∧ Hid (firstE (chE g) i = 0) ∧ Hid (Below w1.heap.size w1 wr)) (fun a _ => (g.h.length - intOf a).toNat)
        case atStart => exact ⟨0, by omega, rfl, Lib.hid rfl, Br⟩
        case round =>
          clear hsz BB Br
          obtain ⟨i, hil, rfl, Z, Br⟩ := hrel
          have BB := Lib.hid (hB.out.trans (Br.out.mono hB.out.size))
          have k := (OX.out.below Br.out OX.out.inside).read
          have k0 : wr.cell? ⟨gg, 0, none⟩ = some (.slice va g.c.length vi) := k 0
          have k1 : wr.cell? ⟨gg, 1, none⟩ = some (.slice vb g.l.length vj) := k 1
          have k2 : wr.cell? ⟨gg, 2, none⟩ = some (.slice vd g.o.length vk) := k 2
          have k3 : wr.cell? ⟨gg, 3, none⟩ = some (.slice ve g.h.length vm) := k 3
          clear k
          by_cases hin : i = g.h.length
          · obtain rfl : 0 = E := by rw [← hE.out, ← Z.out, hin]
            clear Z hE
            have hlt : ¬ ((i : Int) < g.h.length) := by omega
            go_wp2_with fail
            go_ret
            exact ⟨rfl, BB.out⟩
          have hlt : i < g.h.length := by omega
          have C := QC1.out i hlt wr (H1.out.below Br.out)
          obtain ⟨m, hm⟩ : ∃ m, chE g i = m := ⟨_, rfl⟩
          rw [hm] at C
          replace C := Lib.hid C
          by_cases hm0 : m = 0
          · subst hm0
            have Z2 := Lib.hid ((first_next Z.out).trans hm)
            clear Z hm
            go_wp2_with (go_at_call 154; refine C.out.mono ?_; rintro e w6 ⟨rfl, b6⟩)
            go_roundw
            case rel => exact ⟨i + 1, hlt, by go_num, Z2, Lib.hid (Br.out.trans (b6.mono Br.out.size))⟩
            case measure => simp [intOf]; omega
          · have hs1 : firstE (chE g) g.h.length = m := by rw [first_stop Z.out (by rw [hm]; exact hm0) _ hlt, hm]
            obtain rfl : m = E := by rw [← hE.out, hs1]
            have nb : (m == 0) = false := by rw [beq_eq_false_iff_ne]; exact hm0
            clear Z hE hs1 hm
            go_wp2_with (go_at_call 154; refine C.out.mono ?_; rintro e w6 ⟨rfl, b6⟩)
            go_ret
            exact ⟨rfl, BB.out.trans (b6.mono BB.out.size)⟩
end Go.Proofs.YtpblpjopinllcaaGreatDoor.graph
