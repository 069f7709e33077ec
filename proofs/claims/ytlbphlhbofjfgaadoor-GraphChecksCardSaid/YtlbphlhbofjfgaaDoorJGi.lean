/-
  What is wrong with a channel, by the document (by gen_gi.py).
-/
import Derived.Test.YtlbphlhbofjfgaaDoorJGh
import Derived.Test.YtlbphlhbofjfgaaDoorJGd
namespace Go.Proofs.YtlbphlhbofjfgaaDoor.graph
open Go.ChangeShapes Go.WideShapes Go.ChangeAt Go.RowKit
open Go.Proofs.YtlbphlhbofjfgaaDoor.opened Go.Proofs.YtlbphlhbofjfgaaDoor.block Go.Proofs.YtlbphlhbofjfgaaDoor.words
theorem fieldsChR : (Tryd.prog.fieldsOf 76).toList.map (fun f => (f.name == "_", f.type, f.offset)) = [(false, 3, 0), (false, 3, 1)] := by kernel_rfl
theorem namesChR : ∃ f g : Field, (Tryd.prog.fieldsOf 76).toList = [f, g] ∧ f.name ≠ "_" ∧ f.type = 3 ∧ f.offset = 0 ∧ g.name ≠ "_" ∧ g.type = 3 ∧ g.offset = 1 := by
  have k := fieldsChR
  match hq : (Tryd.prog.fieldsOf 76).toList with
  | [f, g] =>
    rw [hq] at k
    simp at k
    obtain ⟨⟨a1, a2, a3⟩, b1, b2, b3⟩ := k
    exact ⟨f, g, rfl, a1, a2, a3, b1, b2, b3⟩
  | [] => rw [hq] at k; simp at k
  | [_] => rw [hq] at k; simp at k
  | _ :: _ :: _ :: _ => rw [hq] at k; simp at k
theorem descChR : Tryd.prog.underlying 76 = some (.struct (Tryd.prog.fieldsOf 76)) := by kernel_rfl
theorem stoodChR : Tryd.prog.stoodInHeld 76 = false := by kernel_rfl
set_option maxRecDepth 100000 in
theorem in_eqChR (p q : Ch) (w : World) : (Op.equalIn 10000 76 (.agg #[.int .i64 p.f, .int .i64 p.t]) (.agg #[.int .i64 q.f, .int .i64 q.t])).run Tryd.prog w = .ok (p.f == q.f && p.t == q.t) w := by
  obtain ⟨f, g, hl, f1, f2, f3, g1, g2, g3⟩ := namesChR
  rw [run_equalIn_struct w 9999 76 _ _ descChR stoodChR, hl]
  simp only [Op.eqFields, f1, g1, f2, g2, f3, g3, ne_eq, not_false_eq_true, if_true, Sem.run_bind]
  rw [run_part_plain w plainI (v := .int .i64 p.f) (by simp)]
  simp only [Result.andThen_ok]
  rw [run_part_plain w plainI (v := .int .i64 q.f) (by simp)]
  simp only [Result.andThen_ok]
  rw [run_equalIn_int w 9998 3 .i64 .i64 _ _ Tryd.underlying3]
  simp only [Result.andThen_ok]
  cases e0 : p.f == q.f
  · simp
  · simp only [Bool.not_true, Bool.false_eq_true, if_false, Sem.run_bind]
    rw [run_part_plain w plainI (v := .int .i64 p.t) (by simp)]
    simp only [Result.andThen_ok]
    rw [run_part_plain w plainI (v := .int .i64 q.t) (by simp)]
    simp only [Result.andThen_ok]
    rw [run_equalIn_int w 9998 3 .i64 .i64 _ _ Tryd.underlying3]
    simp only [Result.andThen_ok]
    cases e1 : p.t == q.t
    · simp
    · simp
set_option maxRecDepth 100000 in
set_option maxHeartbeats 1000000 in
theorem chR_any (v : Gv) (g : Gr) (h24 : g.o.length ≤ 24) (h48 : g.h.length ≤ 48) (IL : InLoops g) (i : Nat) (hi : i < g.h.length) (w : World) (h : Lies4 w v g) :
    Calls Tryd.prog 40 #[gV v g, .int .i64 i] w fun e w' => e = .returned (.int .i64 (chE g i)) ∧ Below w.heap.size w w' := by
  obtain ⟨va, vb, vd, ve, vi, vj, vk, vm⟩ := v
  unfold gV
  dsimp only
  have IH := Lib.hid IL
  obtain ⟨E, hE⟩ : ∃ E, chE g i = E := ⟨_, rfl⟩
  rw [hE]
  obtain ⟨x, hx⟩ : ∃ x, g.h[i]? = some x := ⟨g.h[i], List.getElem?_eq_getElem hi⟩
  obtain ⟨f, t⟩ := x
  have hcl : (if f < 0 ∨ (g.o.length : Int) ≤ f ∨ t < 0 ∨ (g.o.length : Int) ≤ t then 1 else if kindAt g f = 2 ∨ kindAt g t = 1 then 5 else if loopV g f.toNat true ≠ loopV g t.toNat false then 10 else if (⟨f, t⟩ : Ch) ∈ g.h.take i then 4 else 0) = E := by rw [← hE]; unfold chE; rw [hx]
  clear hE
  have hE := Lib.hid hcl
  have hB := Lib.hid (fresh1 w (.cells #[.slice va g.c.length vi, .slice vb g.l.length vj, .slice vd g.o.length vk, .slice ve g.h.length vm] 27))
  have OX := Lib.hid (Whole.fresh w 27 #[.slice va g.c.length vi, .slice vb g.l.length vj, .slice vd g.o.length vk, .slice ve g.h.length vm])
  have HR := Lib.hid (h.below hB.out)
  clear h IL hcl
  obtain ⟨b1, o1, hA, hb1, c0, c1⟩ := at_ch HR.out.h hx
  change ve = _ at hA
  subst hA
  dsimp only at c0 c1
  go_enter Tryd.func40, Tryd.ntmps40
  go_upto_region 1 with fail
  change Code.wp _ _ _ _ (w.alloc (.cells #[.slice va g.c.length vi, .slice vb g.l.length vj, .slice vd g.o.length vk, .slice (some ⟨b1, o1, none⟩) g.h.length vm] 27))
  generalize w.alloc (.cells #[.slice va g.c.length vi, .slice vb g.l.length vj, .slice vd g.o.length vk, .slice (some ⟨b1, o1, none⟩) g.h.length vm] 27) = wr at OX hB HR hb1 c0 c1 ⊢
  obtain ⟨gg, hgg⟩ : ∃ gg, w.heap.size = gg := ⟨_, rfl⟩
  rw [hgg] at OX ⊢
  clear hgg
  have k0 : wr.cell? ⟨gg, 3, none⟩ = some (.slice (some ⟨b1, o1, none⟩) g.h.length vm) := OX.out.read 3
  go_upto_region 2 with fail
  change Code.wp _ _ _ _ (wr.alloc (.cells #[.int .i64 f, .int .i64 t] 76))
  have hW := fresh1 wr (.cells #[.int .i64 f, .int .i64 t] 76)
  have OW := Lib.hid (Whole.fresh wr 76 #[.int .i64 f, .int .i64 t])
  have OG := Lib.hid (OX.out.below hW OX.out.inside)
  have H4 := Lib.hid (HR.out.below hW)
  have B4 := Lib.hid (hB.out.trans (hW.mono hB.out.size))
  clear OX HR hB hW c0 c1 hb1 k0
  generalize wr.alloc (.cells #[.int .i64 f, .int .i64 t] 76) = w4 at OW OG H4 B4 ⊢
  generalize wr.heap.size = r at OW ⊢
  have g2 : w4.cell? ⟨gg, 2, none⟩ = some (.slice vd g.o.length vk) := OG.out.read 2
  have r0 : w4.cell? ⟨r, 0, none⟩ = some (.int .i64 f) := OW.out.read 0
  have r1 : w4.cell? ⟨r, 1, none⟩ = some (.int .i64 t) := OW.out.read 1
  by_cases hf : f < 0 ∨ (g.o.length : Int) ≤ f ∨ t < 0 ∨ (g.o.length : Int) ≤ t
  · obtain rfl : 1 = E := by rw [← hE.out, if_pos hf]
    clear hE
    rcases Classical.em (f < 0) with a1 | a1
    · clear hf
      go_wp2_with fail
      go_ret
      exact ⟨rfl, B4.out⟩
    rcases Classical.em ((g.o.length : Int) ≤ f) with a2 | a2
    · clear hf
      go_wp2_with fail
      go_ret
      exact ⟨rfl, B4.out⟩
    rcases Classical.em (t < 0) with a3 | a3
    · clear hf
      go_wp2_with fail
      go_ret
      exact ⟨rfl, B4.out⟩
    have a4 : (g.o.length : Int) ≤ t := by omega
    clear hf
    go_wp2_with fail
    go_ret
    exact ⟨rfl, B4.out⟩
  replace hE := Lib.hid ((if_neg hf).symm.trans hE.out)
  obtain ⟨m, rfl⟩ : ∃ m : Nat, f = m := ⟨f.toNat, by omega⟩
  obtain ⟨n, rfl⟩ : ∃ n : Nat, t = n := ⟨t.toNat, by omega⟩
  have hm1 : m < g.o.length := by omega
  have hn1 : n < g.o.length := by omega
  obtain ⟨x1, hx1⟩ : ∃ x, g.o[m]? = some x := ⟨g.o[m], List.getElem?_eq_getElem hm1⟩
  obtain ⟨x2, hx2⟩ : ∃ x, g.o[n]? = some x := ⟨g.o[n], List.getElem?_eq_getElem hn1⟩
  obtain ⟨bo, oo, hA2, hbo, -, e1, -⟩ := at_oq H4.out.o hx1
  change vd = _ at hA2
  subst hA2
  obtain ⟨bo2, oo2, hA3, -, -, e2, -⟩ := at_oq H4.out.o hx2
  injection (Option.some.inj hA3) with hb2 ho2
  subst hb2 ho2
  clear hA3
  have hkm : kindAt g m = x1.k := by simp [kindAt, hx1]
  have hkn : kindAt g n = x2.k := by simp [kindAt, hx2]
  rw [hkm, hkn, Int.toNat_natCast, Int.toNat_natCast] at hE
  clear hkm hkn hf
  by_cases k1 : x1.k = 2
  · obtain rfl : 5 = E := by rw [← hE.out, if_pos (.inl k1)]
    rw [k1] at e1
    clear hE k1
    go_wp2_with fail
    go_ret
    exact ⟨rfl, B4.out⟩
  have f1 : (x1.k == 2) = false := by rw [beq_eq_false_iff_ne]; exact k1
  by_cases k2 : x2.k = 1
  · obtain rfl : 5 = E := by rw [← hE.out, if_pos (.inr k2)]
    rw [k2] at e2
    clear hE k1 k2
    go_wp2_with fail
    go_ret
    exact ⟨rfl, B4.out⟩
  have f2 : (x2.k == 1) = false := by rw [beq_eq_false_iff_ne]; exact k2
  replace hE := Lib.hid ((if_neg (by omega)).symm.trans hE.out)
  clear k1 k2
  go_upto_region 6 with fail
  clear e1 e2 r0 r1 g2 f1 f2
  have A : ∀ (p : Int) (b : Bool) (k : Nat) (x : Oq), g.o[k]? = some x → p = 2 * (k : Int) + (if b then 1 else 0) → ∀ y : Since w4, Calls Tryd.prog 44 #[.agg #[.slice va g.c.length vi, .slice vb g.l.length vj, .slice (some ⟨bo, oo, none⟩) g.o.length vk, .slice (some ⟨b1, o1, none⟩) g.h.length vm], .int .i64 p] y.1 fun e w' => e = .returned (.int .i64 (loopV g k b)) ∧ ∃ z : Since w4, w' = z.1 := fun p b k x hx hp y => since_at y (loopOf_walk ⟨va, vb, some ⟨bo, oo, none⟩, some ⟨b1, o1, none⟩, vi, vj, vk, vm⟩ g k x hx h24 (IH.out x (List.mem_of_getElem? hx)) p b hp y.1 (H4.out.below y.2))
  have L1 := A (2 * (m : Int) + 1) true m x1 hx1 rfl
  have L2 := A (2 * (n : Int)) false n x2 hx2 (by simp)
  clear A
  generalize loopV g m true = l1 at L1 hE
  generalize loopV g n false = l2 at L2 hE
  replace L1 := Lib.hid L1
  replace L2 := Lib.hid L2
  have s0 : ∀ y : Since w4, y.1.cell? ⟨r, 0, none⟩ = some (.int .i64 m) := fun y => (OW.out.below y.2 OW.out.inside).read 0
  have s1 : ∀ y : Since w4, y.1.cell? ⟨r, 1, none⟩ = some (.int .i64 n) := fun y => (OW.out.below y.2 OW.out.inside).read 1
  have t0 : ∀ y : Since w4, y.1.cell? ⟨gg, 0, none⟩ = some (.slice va g.c.length vi) := fun y => (OG.out.below y.2 OG.out.inside).read 0
  have t1 : ∀ y : Since w4, y.1.cell? ⟨gg, 1, none⟩ = some (.slice vb g.l.length vj) := fun y => (OG.out.below y.2 OG.out.inside).read 1
  have t2 : ∀ y : Since w4, y.1.cell? ⟨gg, 2, none⟩ = some (.slice (some ⟨bo, oo, none⟩) g.o.length vk) := fun y => (OG.out.below y.2 OG.out.inside).read 2
  have t3 : ∀ y : Since w4, y.1.cell? ⟨gg, 3, none⟩ = some (.slice (some ⟨b1, o1, none⟩) g.h.length vm) := fun y => (OG.out.below y.2 OG.out.inside).read 3
  clear hx1 hx2
  refine region_since w4 (by kernel_rfl) (by kernel_rfl) (Below.refl _ _) ?_
  repeat (go_big_quiet_step ((go_at_call 44; first | with_reducible exact L1.out _ | with_reducible exact L2.out _)))
  refine wpQuiet_nil ?_
  rintro w5 ⟨z, hz⟩
  have b5 : Below w4.heap.size w4 w5 := hz ▸ z.2
  have B5 := Lib.hid (B4.out.trans (b5.mono B4.out.size))
  have OG5 := Lib.hid (OG.out.below b5 OG.out.inside)
  have OW5 := Lib.hid (OW.out.below b5 OW.out.inside)
  have H5 := Lib.hid (H4.out.below b5)
  clear hz z s0 s1 t0 t1 t2 t3 L1 L2 b5 B4 OG OW H4
  by_cases hl : l1 = l2
  case neg =>
    obtain rfl : 10 = E := by rw [← hE.out, if_pos hl]
    have hl2 : (l1 == l2) = false := by rw [beq_eq_false_iff_ne]; exact hl
    clear hE
    go_wp2_with fail
    go_ret
    exact ⟨rfl, B5.out⟩
  subst hl
  replace hE := Lib.hid ((if_neg (by simp)).symm.trans hE.out)
  go_upto_region 8 with fail
  go_wp2_with fail
  go_loopw [6] (fun a wr => ∃ j : Nat, j ≤ i ∧ a = .int .i64 j ∧ Hid ((⟨m, n⟩ : Ch) ∉ g.h.take j) ∧ Hid (Below w5.heap.size w5 wr)) (fun a _ => (i - intOf a).toNat)
  case atStart => exact ⟨0, by omega, rfl, Lib.hid (by simp), Lib.hid (Below.refl _ _)⟩
  case round =>
    obtain ⟨j, hj, rfl, Z, D5⟩ := hrel
    replace B5 := Lib.hid (B5.out.trans (D5.out.mono B5.out.size))
    replace OG5 := Lib.hid (OG5.out.below D5.out OG5.out.inside)
    replace OW5 := Lib.hid (OW5.out.below D5.out OW5.out.inside)
    replace H5 := Lib.hid (H5.out.below D5.out)
    by_cases hin : j = i
    · obtain rfl : 0 = E := by rw [← hE.out, if_neg]; rw [← hin]; exact Z.out
      clear hE Z
      have hlt : ¬ ((j : Int) < i) := by omega
      go_wp2_with fail
      go_ret
      exact ⟨rfl, B5.out⟩
    · have hlt : j < i := by omega
      have hjl : j < g.h.length := by omega
      obtain ⟨⟨f, t⟩, hy⟩ : ∃ y, g.h[j]? = some y := ⟨g.h[j], List.getElem?_eq_getElem hjl⟩
      obtain ⟨b2, o2, hA4, hbw, d0, d1⟩ := at_ch H5.out.h hy
      injection (Option.some.inj hA4) with hb3 ho3
      subst hb3 ho3
      clear hA4
      dsimp only at d0 d1
      have hb1w : b1 < wr.heap.size := hbw
      have y0 : ∀ y : Since wr, y.1.cell? ⟨r, 0, none⟩ = some (.int .i64 m) := fun y => (OW5.out.below y.2 OW5.out.inside).read 0
      have y1 : ∀ y : Since wr, y.1.cell? ⟨r, 1, none⟩ = some (.int .i64 n) := fun y => (OW5.out.below y.2 OW5.out.inside).read 1
      have y3 : ∀ y : Since wr, y.1.cell? ⟨gg, 3, none⟩ = some (.slice (some ⟨b1, o1, none⟩) g.h.length vm) := fun y => (OG5.out.below y.2 OG5.out.inside).read 3
      have p0 : ∀ y : Since wr, y.1.cell? ⟨b1, o1 + j * 2, none⟩ = some (.int .i64 f) := fun y => (y.2.cell (p := ⟨b1, o1 + j * 2, none⟩) hb1w).trans d0
      have p1 : ∀ y : Since wr, y.1.cell? ⟨b1, o1 + j * 2 + 1, none⟩ = some (.int .i64 t) := fun y => (y.2.cell (p := ⟨b1, o1 + j * 2 + 1, none⟩) hb1w).trans d1
      clear d0 d1
      have HG : Tryd.prog.eqGuardType Tryd.prog.depth 76 = false := by kernel_rfl
      have Q : ∀ w : World, (Op.equalIn 10000 76 (.agg #[.int .i64 f, .int .i64 t]) (.agg #[.int .i64 m, .int .i64 n])).run Tryd.prog w = .ok (decide ((⟨f, t⟩ : Ch) = ⟨m, n⟩)) w := fun w => (in_eqChR ⟨f, t⟩ ⟨m, n⟩ w).trans (by
        congr 1
        rw [Bool.eq_iff_iff]
        simp)
      by_cases hq : (⟨f, t⟩ : Ch) = ⟨m, n⟩
      · obtain rfl : 4 = E := by rw [← hE.out, if_pos]; rw [← hq]; exact List.mem_of_getElem? (by rw [List.getElem?_take_of_lt hlt]; exact hy)
        rw [decide_eq_true hq] at Q
        clear hE Z hy hq
        go_upto_region 11 with fail
        refine region_since wr (by kernel_rfl) (by kernel_rfl) (Below.refl _ _) ?_
        repeat (go_big_quiet_step (fail))
        refine wpQuiet_nil ?_
        rintro w6 ⟨z, hz⟩
        have b6 : Below wr.heap.size wr w6 := hz ▸ z.2
        clear hz z y0 y1 y3 p0 p1 Q HG
        go_wp2_with fail
        go_ret
        exact ⟨rfl, B5.out.trans (b6.mono B5.out.size)⟩
      · have Z2 := Lib.hid (show (⟨m, n⟩ : Ch) ∉ g.h.take (j + 1) by
          rw [List.take_add_one, hy]
          simp only [Option.toList, List.mem_append, List.mem_singleton, not_or]
          exact ⟨Z.out, fun h => hq h.symm⟩)
        rw [decide_eq_false hq] at Q
        clear hE Z hy hq
        go_upto_region 11 with fail
        refine region_since wr (by kernel_rfl) (by kernel_rfl) (Below.refl _ _) ?_
        repeat (go_big_quiet_step (fail))
        refine wpQuiet_nil ?_
        rintro w6 ⟨z, hz⟩
        have b6 : Below wr.heap.size wr w6 := hz ▸ z.2
        clear hz z y0 y1 y3 p0 p1 Q HG
        go_wp2_with fail
        go_roundw
        case rel => exact ⟨j + 1, hlt, by go_num, Z2, Lib.hid (D5.out.trans (b6.mono D5.out.size))⟩
        case measure => simp [intOf]; omega
end Go.Proofs.YtlbphlhbofjfgaaDoor.graph
