/-
  DERIVED: THE SHELF's CONTRACTS AT THIS DUMP, IN PLAIN WORDS (tools/lay-plain.mjs out of 'TryzShelfX.lean', which tools/lay-shelf.mjs wrote): THE SAME DECLARATIONS UNDER THE SAME NAMES: 'import', 'namespace', 'open', 'def', 'theorem' AND NOTHING ELSE: no command of the shelf's: FOR A HAND-IN. Each laying: the table of numbers ('.._ren') and one theorem, a field a fact of the dump's own or the kernel's comparison; each contract: ONE APPLICATION.
  '==' of two channels; slices.Contains over channels.
  What is wrong with a graph's channels, as the program tells it.
-/
import Derived.Shelf.SlGeneric
import Derived.Shelf.SlicesQ.IndexFunc
import Derived.Shelf.SlicesQ.Equal
import Derived.Shelf.SlicesQ.Contains
import Derived.Ground.SlgfProg
import Derived.Ground.SlgqProg
import Derived.Test.YtpblpjopinllcaaGreatDoorProg
import Derived.Test.YtpblpjopinllcaaGreatDoorJLayG
import Derived.ChangeKeysEq
import Derived.Laws.StructEq
import Derived.Test.YtpblpjopinllcaaGreatDoorJGx
import Derived.Test.YtpblpjopinllcaaGreatDoorJGc
namespace Go.Proofs
open Go.Shelf
def Tryz.lQc_ren : Go.Shelf.Ren := ⟨fun | 7 => 164 | 6 => 243 | n => n, fun | 22 => 25 | 24 => 61 | 4 => 4 | 0 => 0 | 3 => 3 | n => n, fun | n => n⟩
theorem Tryz.lQc : Go.Proofs.SlLaysQ.n7 Tryz.prog Tryz.lQc_ren := {
  mixed := by kernel_rfl
  f6 := ⟨Tryz.f243.name, by decide, Tryz.func243.trans (congrArg some (by kernel_rfl))⟩
  f7 := ⟨Tryz.f164.name, by decide, Tryz.func164.trans (congrArg some (by kernel_rfl))⟩
  t0 := Tryz.underlying0
  a0 := Tryz.isAgg0
  z0 := Tryz.sizeOf0
  v0 := Tryz.zeroValue0
  t3 := Tryz.underlying3
  a3 := Tryz.isAgg3
  z3 := Tryz.sizeOf3
  v3 := Tryz.zeroValue3
  t4 := Tryz.underlying4
  a4 := Tryz.isAgg4
  z4 := Tryz.sizeOf4
  v4 := Tryz.zeroValue4
  t22 := Tryz.underlying25
  a22 := Tryz.isAgg25
  z22 := Tryz.sizeOf25
  v22 := Tryz.zeroValue25 }
end Go.Proofs
namespace Go.Proofs.YtpblpjopinllcaaGreatDoor.graph
open Go.ChangeShapes Go.WideShapes Go.ChangeAt Go.RowKit Go.Shelf
open Go.Proofs.YtpblpjopinllcaaGreatDoor.opened Go.Proofs.YtpblpjopinllcaaGreatDoor.block Go.Proofs.YtpblpjopinllcaaGreatDoor.words
instance : Inhabited Ch := ⟨⟨0, 0⟩⟩
theorem fieldsCh : (Tryz.prog.fieldsOf 61).toList.map (fun f => (f.name == "_", f.type, f.offset)) = [(false, 3, 0), (false, 3, 1)] := by kernel_rfl
theorem namesCh : ∃ f g : Field, (Tryz.prog.fieldsOf 61).toList = [f, g] ∧ f.name ≠ "_" ∧ f.type = 3 ∧ f.offset = 0 ∧ g.name ≠ "_" ∧ g.type = 3 ∧ g.offset = 1 := by
  have k := fieldsCh
  match hq : (Tryz.prog.fieldsOf 61).toList with
  | [f, g] =>
    rw [hq] at k
    simp at k
    obtain ⟨⟨a1, a2, a3⟩, b1, b2, b3⟩ := k
    exact ⟨f, g, rfl, a1, a2, a3, b1, b2, b3⟩
  | [] => rw [hq] at k; simp at k
  | [_] => rw [hq] at k; simp at k
  | _ :: _ :: _ :: _ => rw [hq] at k; simp at k
theorem descCh : Tryz.prog.underlying 61 = some (.struct (Tryz.prog.fieldsOf 61)) := by kernel_rfl
theorem stoodCh : Tryz.prog.stoodInHeld 61 = false := by kernel_rfl
theorem plainI : Tryz.prog.plainKey 3 = true := by kernel_rfl
set_option maxRecDepth 100000 in
theorem run_eqCh (p q : Ch) (w : World) : (binOp .eql 61 (.agg #[.int .i64 p.f, .int .i64 p.t]) (.agg #[.int .i64 q.f, .int .i64 q.t])).run Tryz.prog w = .ok (.bool (decide (p = q))) w := by
  obtain ⟨f, g, hl, f1, f2, f3, g1, g2, g3⟩ := namesCh
  have k : (Op.equalIn 10000 61 (.agg #[.int .i64 p.f, .int .i64 p.t]) (.agg #[.int .i64 q.f, .int .i64 q.t])).run Tryz.prog w = .ok (p.f == q.f && p.t == q.t) w := by
    rw [run_equalIn_struct w 9999 61 _ _ descCh stoodCh, hl]
    simp only [Op.eqFields, f1, g1, f2, g2, f3, g3, ne_eq, not_false_eq_true, if_true, Sem.run_bind]
    rw [run_part_plain w plainI (v := .int .i64 p.f) (by simp)]
    simp only [Result.andThen_ok]
    rw [run_part_plain w plainI (v := .int .i64 q.f) (by simp)]
    simp only [Result.andThen_ok]
    rw [run_equalIn_int w 9998 3 .i64 .i64 _ _ Tryz.underlying3]
    simp only [Result.andThen_ok]
    cases e0 : p.f == q.f
    · simp
    · simp only [Bool.not_true, Bool.false_eq_true, if_false, Sem.run_bind]
      rw [run_part_plain w plainI (v := .int .i64 p.t) (by simp)]
      simp only [Result.andThen_ok]
      rw [run_part_plain w plainI (v := .int .i64 q.t) (by simp)]
      simp only [Result.andThen_ok]
      rw [run_equalIn_int w 9998 3 .i64 .i64 _ _ Tryz.underlying3]
      simp only [Result.andThen_ok]
      cases e1 : p.t == q.t
      · simp
      · simp
  rw [run_eql_struct, k]
  simp only [Result.andThen_ok]
  congr 2
  rw [Bool.eq_iff_iff]
  obtain ⟨s, m⟩ := p
  obtain ⟨t, n⟩ := q
  simp
theorem eqCh : EqlAt Tryz.prog 61 (fun x : Ch => .agg (cCh x).toArray) (fun x y => decide (x = y)) := ⟨fun x y w => run_eqCh x y w, GuardAt.agg _ (by kernel_rfl)⟩
theorem cells_ch {w : World} {A : Option Addr} {M : List Ch} {b off : Nat} (h : Lg 2 cCh w A M) (hA : A = some ⟨b, off, none⟩) : ∀ j, j < M.length → ∀ i v, (cCh M[j]!)[i]? = some v → w.cell? ⟨b, off + j * 2 + i, none⟩ = some v := by
  intro j hj i v hi
  have hx : M[j]? = some M[j]! := by rw [List.getElem?_eq_getElem hj, getElem!_pos M j hj]
  obtain ⟨b1, o1, hA1, hb1, hc⟩ := h.cells hx
  rw [hA] at hA1
  injection (Option.some.inj hA1) with h1 h2
  subst h1 h2
  have hi3 : i < 2 := by
    have := (List.getElem?_eq_some_iff.1 hi).1
    simpa [cCh] using this
  rw [← hi, ← hc i hi3, Nat.add_assoc]
/-- Is a channel among the first k of a row? -/
theorem has_any (b off c k : Nat) (M : List Ch) (x : Ch) (w : World) (hk : k ≤ M.length) (h48 : M.length ≤ 48) (h : Lg 2 cCh w (some ⟨b, off, none⟩) M) :
    Calls Tryz.prog 164 #[.slice (some ⟨b, off, none⟩) k c, .agg #[.int .i64 x.f, .int .i64 x.t]] w fun e w' => e = .returned (.bool (decide (x ∈ M.take k))) ∧ Below w.heap.size w w' := by
  have hcon := AnyQ.slices_Contains Tryz.lQc 2 Tryz.isAgg61 Tryz.sizeOf61 cCh (fun _ => rfl) (fun x y => decide (x = y)) eqCh b off k c M x w hk (by omega) (cells_ch h rfl)
  change Calls Tryz.prog 164 _ _ _ at hcon
  have e : ((M.take k).any fun y => decide (x = y)) = decide (x ∈ M.take k) := by
    rw [Bool.eq_iff_iff]
    simp
  rw [e] at hcon
  exact hcon
end Go.Proofs.YtpblpjopinllcaaGreatDoor.graph
namespace Go.Proofs.YtpblpjopinllcaaGreatDoor.graph
open Go.ChangeShapes Go.WideShapes Go.ChangeAt Go.RowKit Go.Shelf
open Go.Proofs.YtpblpjopinllcaaGreatDoor.opened Go.Proofs.YtpblpjopinllcaaGreatDoor.block Go.Proofs.YtpblpjopinllcaaGreatDoor.words
/-- Operators that enter or leave are in a loop that there is. -/
def InLoops (g : Gr) : Prop := ∀ x ∈ g.o, x.k = 7 ∨ x.k = 8 → 0 ≤ x.l ∧ x.l < g.l.length
theorem since_same {P : Program} {f : FuncId} {args : Array Value} {v : Value} {w0 : World} (h : ∀ w, Calls P f args w fun e w' => e = .returned v ∧ w = w') (x : Since w0) :
    Calls P f args x.1 fun e w' => e = .returned v ∧ ∃ y : Since w0, w' = y.1 := (h x.1).mono fun _ _ ⟨he, hb⟩ => ⟨he, x, hb.symm⟩
theorem since_at {P : Program} {f : FuncId} {args : Array Value} {v : Value} {w0 : World} (x : Since w0) (h : Calls P f args x.1 fun e w' => e = .returned v ∧ Below x.1.heap.size x.1 w') :
    Calls P f args x.1 fun e w' => e = .returned v ∧ ∃ y : Since w0, w' = y.1 := h.mono fun _ w' ⟨he, hb⟩ => ⟨he, ⟨w', then_below x.2 hb⟩, rfl⟩
set_option maxRecDepth 100000 in
theorem channels_any (v : Gv) (g : Gr) (F : Fit v g) (h24 : g.o.length ≤ 24) (h48 : g.h.length ≤ 48) (IL : InLoops g) (w : World) (h : Lies4 w v g) :
    Calls Tryz.prog 90 #[gV v g] w fun e w' => e = .returned (.int .i64 (firstE (chE g) g.h.length)) ∧ Below w.heap.size w w' := by
  have hm := F.m
  obtain ⟨va, vb, vd, ve, vi, vj, vk, vm⟩ := v
  unfold gV
  dsimp only at hm ⊢
  have H := Lib.hid h
  have IH := Lib.hid IL
  obtain ⟨E, hE⟩ : ∃ E, firstE (chE g) g.h.length = E := ⟨_, rfl⟩
  rw [hE]
  replace hE := Lib.hid hE
  have hB := Lib.hid (fresh1 w (.cells #[.slice va g.c.length vi, .slice vb g.l.length vj, .slice vd g.o.length vk, .slice ve g.h.length vm] 27))
  have OX := Lib.hid (Whole.fresh w 27 #[.slice va g.c.length vi, .slice vb g.l.length vj, .slice vd g.o.length vk, .slice ve g.h.length vm])
  clear h F IL
  go_enter Tryz.func90, Tryz.ntmps90
  go_upto_region 1 with fail
  change Code.wp _ _ _ _ (w.alloc (.cells #[.slice va g.c.length vi, .slice vb g.l.length vj, .slice vd g.o.length vk, .slice ve g.h.length vm] 27))
  generalize w.alloc (.cells #[.slice va g.c.length vi, .slice vb g.l.length vj, .slice vd g.o.length vk, .slice ve g.h.length vm] 27) = w1 at OX hB ⊢
  obtain ⟨gg, hgg⟩ : ∃ gg, w.heap.size = gg := ⟨_, rfl⟩
  rw [hgg] at OX ⊢
  clear hgg
  have k0 : w1.cell? ⟨gg, 3, none⟩ = some (.slice ve g.h.length vm) := OX.out.read 3
  go_wp2_with fail
  clear k0
  go_loopw [8] (fun a wr => ∃ i : Nat, i ≤ g.h.length ∧ a = .int .i64 i ∧ Hid (firstE (chE g) i = 0) ∧ Hid (Below w1.heap.size w1 wr)) (fun a _ => (g.h.length - intOf a).toNat)
  case atStart => exact ⟨0, by omega, rfl, Lib.hid rfl, Lib.hid (Below.refl _ _)⟩
  case round =>
    obtain ⟨i, hi, rfl, Z, Br⟩ := hrel
    have BB := Lib.hid (hB.out.trans (Br.out.mono hB.out.size))
    have OG := Lib.hid (OX.out.below Br.out OX.out.inside)
    have HR := Lib.hid (H.out.below BB.out)
    by_cases hin : i = g.h.length
    · have e0 : E = 0 := by rw [← hE.out, ← Z.out, hin]
      subst e0
      clear Z
      have hlt : ¬ ((i : Int) < g.h.length) := by omega
      go_wp2_with fail
      go_ret
      exact ⟨rfl, BB.out⟩
    have hlt : i < g.h.length := by omega
    obtain ⟨x, hx⟩ : ∃ x, g.h[i]? = some x := ⟨g.h[i], List.getElem?_eq_getElem hlt⟩
    obtain ⟨b1, o1, hA, hb1, c0, c1⟩ := at_ch HR.out.h hx
    change ve = _ at hA
    subst hA
    obtain ⟨f, t⟩ := x
    dsimp only at c0 c1
    have hcl : chE g i = if f < 0 ∨ (g.o.length : Int) ≤ f ∨ t < 0 ∨ (g.o.length : Int) ≤ t then 1 else if kindAt g f = 2 ∨ kindAt g t = 1 then 5 else if loopV g f.toNat true ≠ loopV g t.toNat false then 10 else if (⟨f, t⟩ : Ch) ∈ g.h.take i then 4 else 0 := by unfold chE; rw [hx]
    replace hcl := Lib.hid hcl
    have P1 := isOp_any ⟨va, vb, vd, some ⟨b1, o1, none⟩, vi, vj, vk, vm⟩ g f
    have P2 := isOp_any ⟨va, vb, vd, some ⟨b1, o1, none⟩, vi, vj, vk, vm⟩ g t
    unfold gV at P1 P2
    dsimp only at P1 P2
    go_upto_region 4 with fail
    change Code.wp _ _ _ _ (wr.alloc (.cells #[.int .i64 f, .int .i64 t] 61))
    have hW := fresh1 wr (.cells #[.int .i64 f, .int .i64 t] 61)
    have OW := Lib.hid (Whole.fresh wr 61 #[.int .i64 f, .int .i64 t])
    have OG2 := Lib.hid (OG.out.below hW OG.out.inside)
    have H2 := Lib.hid (HR.out.below hW)
    have B2 := Lib.hid (BB.out.trans (hW.mono BB.out.size))
    have D2 := Lib.hid (Br.out.trans (hW.mono Br.out.size))
    clear OG HR BB Br hW c0 c1 hb1 H
    generalize wr.alloc (.cells #[.int .i64 f, .int .i64 t] 61) = w2 at OW OG2 H2 B2 D2 ⊢
    generalize wr.heap.size = r at OW ⊢
    have g0 : w2.cell? ⟨gg, 0, none⟩ = some (.slice va g.c.length vi) := OG2.out.read 0
    have g1 : w2.cell? ⟨gg, 1, none⟩ = some (.slice vb g.l.length vj) := OG2.out.read 1
    have g2 : w2.cell? ⟨gg, 2, none⟩ = some (.slice vd g.o.length vk) := OG2.out.read 2
    have g3 : w2.cell? ⟨gg, 3, none⟩ = some (.slice (some ⟨b1, o1, none⟩) g.h.length vm) := OG2.out.read 3
    have r0 : w2.cell? ⟨r, 0, none⟩ = some (.int .i64 f) := OW.out.read 0
    have r1 : w2.cell? ⟨r, 1, none⟩ = some (.int .i64 t) := OW.out.read 1
    by_cases hf : 0 ≤ f ∧ f < g.o.length
    case neg =>
      rw [decide_eq_false hf] at P1
      obtain rfl : 1 = E := by rw [← hE.out, first_stop Z.out (by rw [hcl.out, if_pos (by omega)]; decide) _ hlt, hcl.out, if_pos (by omega)]
      replace P1 := Lib.hid P1
      clear P2 hcl Z hf
      go_wp2_with (go_at_call 91; refine (P1.out _).mono ?_; rintro e w3 ⟨rfl, b3⟩)
      go_ret
      exact ⟨rfl, B2.out.trans (b3.mono B2.out.size)⟩
    rw [decide_eq_true hf] at P1
    replace P1 := Lib.hid P1
    by_cases ht : 0 ≤ t ∧ t < g.o.length
    case neg =>
      rw [decide_eq_false ht] at P2
      obtain rfl : 1 = E := by rw [← hE.out, first_stop Z.out (by rw [hcl.out, if_pos (by omega)]; decide) _ hlt, hcl.out, if_pos (by omega)]
      replace P2 := Lib.hid P2
      clear hcl Z hf ht
      go_wp2_with (go_at_call 91; first
        | (with_reducible refine (P1.out _).mono ?_; rintro e w3 ⟨rfl, b3⟩; have G3 := (OG2.out.below b3 OG2.out.inside).read; have X3 := (OW.out.below b3 OW.out.inside).read)
        | (with_reducible refine (P2.out _).mono ?_; rintro e w4 ⟨rfl, b4⟩))
      go_ret
      exact ⟨rfl, B2.out.trans ((b3.trans (b4.mono b3.size)).mono B2.out.size)⟩
    rw [decide_eq_true ht] at P2
    replace P2 := Lib.hid P2
    replace hcl := Lib.hid (hcl.out.trans (if_neg (by omega)))
    go_upto_region 6 with (go_at_call 91; first
        | (with_reducible refine (P1.out _).mono ?_; rintro e w3 ⟨rfl, b3⟩; have G3 := (OG2.out.below b3 OG2.out.inside).read; have X3 := (OW.out.below b3 OW.out.inside).read)
        | (with_reducible refine (P2.out _).mono ?_; rintro e w4 ⟨rfl, b4⟩))
    have b24 := b3.trans (b4.mono b3.size)
    have B4 := Lib.hid (B2.out.trans (b24.mono B2.out.size))
    have D4 := Lib.hid (D2.out.trans (b24.mono D2.out.size))
    have OG4 := Lib.hid (OG2.out.below b24 OG2.out.inside)
    have OW4 := Lib.hid (OW.out.below b24 OW.out.inside)
    have H4 := Lib.hid (H2.out.below b24)
    clear b24 b3 b4 B2 D2 OG2 OW H2 G3 X3 g0 g1 g2 g3 r0 r1 P1 P2
    obtain ⟨m, rfl⟩ : ∃ m : Nat, f = m := ⟨f.toNat, by omega⟩
    obtain ⟨n, rfl⟩ : ∃ n : Nat, t = n := ⟨t.toNat, by omega⟩
    have hm1 : m < g.o.length := by omega
    have hn1 : n < g.o.length := by omega
    obtain ⟨x1, hx1⟩ : ∃ x, g.o[m]? = some x := ⟨g.o[m], List.getElem?_eq_getElem hm1⟩
    obtain ⟨x2, hx2⟩ : ∃ x, g.o[n]? = some x := ⟨g.o[n], List.getElem?_eq_getElem hn1⟩
    obtain ⟨bo, oo, hA2, hbo, -, e1, -⟩ := at_oq H4.out.o hx1
    change vd = _ at hA2
    subst hA2
    obtain ⟨bo2, oo2, hA3, -, -, e2, -⟩ := at_oq H4.out.o hx2
    injection (Option.some.inj hA3) with hb2 ho2
    subst hb2 ho2
    clear hA3
    have y0 : w4.cell? ⟨r, 0, none⟩ = some (.int .i64 m) := OW4.out.read 0
    have y1 : w4.cell? ⟨r, 1, none⟩ = some (.int .i64 n) := OW4.out.read 1
    have y2 : w4.cell? ⟨gg, 2, none⟩ = some (.slice (some ⟨bo, oo, none⟩) g.o.length vk) := OG4.out.read 2
    have hkm : kindAt g m = x1.k := by simp [kindAt, hx1]
    have hkn : kindAt g n = x2.k := by simp [kindAt, hx2]
    rw [hkm, hkn, Int.toNat_natCast, Int.toNat_natCast] at hcl
    clear hkm hkn hf ht
    by_cases k1 : x1.k = 2
    · obtain rfl : 5 = E := by rw [← hE.out, first_stop Z.out (by rw [hcl.out, if_pos (.inl k1)]; decide) _ hlt, hcl.out, if_pos (.inl k1)]
      rw [k1] at e1
      clear hcl Z k1
      go_wp2_with fail
      go_ret
      exact ⟨rfl, B4.out⟩
    have f1 : (x1.k == 2) = false := by rw [beq_eq_false_iff_ne]; exact k1
    by_cases k2 : x2.k = 1
    · obtain rfl : 5 = E := by rw [← hE.out, first_stop Z.out (by rw [hcl.out, if_pos (.inr k2)]; decide) _ hlt, hcl.out, if_pos (.inr k2)]
      rw [k2] at e2
      clear hcl Z k1 k2
      go_wp2_with fail
      go_ret
      exact ⟨rfl, B4.out⟩
    have f2 : (x2.k == 1) = false := by rw [beq_eq_false_iff_ne]; exact k2
    replace hcl := Lib.hid (hcl.out.trans (if_neg (by omega)))
    clear k1 k2
    go_upto_region 8 with fail
    clear e1 e2 y0 y1 y2 f1 f2
    have IN := fun w => output_any m (by omega) w
    have OU := fun w => input_any n (by omega) w
    replace IN := Lib.hid IN
    replace OU := Lib.hid OU
    have L1 : ∀ y : Since w4, Calls Tryz.prog 93 #[.agg #[.slice va g.c.length vi, .slice vb g.l.length vj, .slice (some ⟨bo, oo, none⟩) g.o.length vk, .slice (some ⟨b1, o1, none⟩) g.h.length vm], .int .i64 (2 * (m : Int) + 1)] y.1 fun e w' => e = .returned (.int .i64 (loopV g m true)) ∧ ∃ z : Since w4, w' = z.1 := fun y => since_at y (loopAt_walk ⟨va, vb, some ⟨bo, oo, none⟩, some ⟨b1, o1, none⟩, vi, vj, vk, vm⟩ g m x1 hx1 h24 (IH.out x1 (List.mem_of_getElem? hx1)) _ true rfl y.1 (H4.out.below y.2))
    have L2 : ∀ y : Since w4, Calls Tryz.prog 93 #[.agg #[.slice va g.c.length vi, .slice vb g.l.length vj, .slice (some ⟨bo, oo, none⟩) g.o.length vk, .slice (some ⟨b1, o1, none⟩) g.h.length vm], .int .i64 (2 * (n : Int))] y.1 fun e w' => e = .returned (.int .i64 (loopV g n false)) ∧ ∃ z : Since w4, w' = z.1 := fun y => since_at y (loopAt_walk ⟨va, vb, some ⟨bo, oo, none⟩, some ⟨b1, o1, none⟩, vi, vj, vk, vm⟩ g n x2 hx2 h24 (IH.out x2 (List.mem_of_getElem? hx2)) _ false (by simp) y.1 (H4.out.below y.2))
    generalize loopV g m true = l1 at L1 hcl
    generalize loopV g n false = l2 at L2 hcl
    replace L1 := Lib.hid L1
    replace L2 := Lib.hid L2
    have s0 : ∀ y : Since w4, y.1.cell? ⟨r, 0, none⟩ = some (.int .i64 m) := fun y => (OW4.out.below y.2 OW4.out.inside).read 0
    have s1 : ∀ y : Since w4, y.1.cell? ⟨r, 1, none⟩ = some (.int .i64 n) := fun y => (OW4.out.below y.2 OW4.out.inside).read 1
    have t0 : ∀ y : Since w4, y.1.cell? ⟨gg, 0, none⟩ = some (.slice va g.c.length vi) := fun y => (OG4.out.below y.2 OG4.out.inside).read 0
    have t1 : ∀ y : Since w4, y.1.cell? ⟨gg, 1, none⟩ = some (.slice vb g.l.length vj) := fun y => (OG4.out.below y.2 OG4.out.inside).read 1
    have t2 : ∀ y : Since w4, y.1.cell? ⟨gg, 2, none⟩ = some (.slice (some ⟨bo, oo, none⟩) g.o.length vk) := fun y => (OG4.out.below y.2 OG4.out.inside).read 2
    have t3 : ∀ y : Since w4, y.1.cell? ⟨gg, 3, none⟩ = some (.slice (some ⟨b1, o1, none⟩) g.h.length vm) := fun y => (OG4.out.below y.2 OG4.out.inside).read 3
    clear hx1 hx2
    refine region_since w4 (by kernel_rfl) (by kernel_rfl) (Below.refl _ _) ?_
    repeat (go_big_quiet_step ((first
      | (go_at_call 163; with_reducible exact since_same IN.out _)
      | (go_at_call 94; with_reducible exact since_same OU.out _)
      | (go_at_call 93; first | with_reducible exact L1.out _ | with_reducible exact L2.out _))))
    refine wpQuiet_nil ?_
    rintro w5 ⟨z, hz⟩
    have b5 : Below w4.heap.size w4 w5 := hz ▸ z.2
    have B5 := Lib.hid (B4.out.trans (b5.mono B4.out.size))
    have D5 := Lib.hid (D4.out.trans (b5.mono D4.out.size))
    have OG5 := Lib.hid (OG4.out.below b5 OG4.out.inside)
    have OW5 := Lib.hid (OW4.out.below b5 OW4.out.inside)
    have H5 := Lib.hid (H4.out.below b5)
    clear hz z s0 s1 t0 t1 t2 t3 L1 L2 IN OU b5 B4 D4 OG4 OW4 H4
    by_cases hl : l1 = l2
    case neg =>
      obtain rfl : 10 = E := by rw [← hE.out, first_stop Z.out (by rw [hcl.out, if_pos hl]; decide) _ hlt, hcl.out, if_pos hl]
      have hl2 : (l1 == l2) = false := by rw [beq_eq_false_iff_ne]; exact hl
      clear hcl Z
      go_wp2_with fail
      go_ret
      exact ⟨rfl, B5.out⟩
    subst hl
    replace hcl := Lib.hid (hcl.out.trans (if_neg (by simp)))
    go_upto_region 10 with fail
    have C : ∀ y : Since w5, Calls Tryz.prog 164 #[.slice (some ⟨b1, o1, none⟩) i vm, .agg #[.int .i64 m, .int .i64 n]] y.1 fun e w' => e = .returned (.bool (decide ((⟨m, n⟩ : Ch) ∈ g.h.take i))) ∧ ∃ z : Since w5, w' = z.1 := fun y => since_at y (has_any b1 o1 vm i g.h ⟨m, n⟩ y.1 hi h48 (H5.out.below y.2).h)
    have s0 : ∀ y : Since w5, y.1.cell? ⟨r, 0, none⟩ = some (.int .i64 m) := fun y => (OW5.out.below y.2 OW5.out.inside).read 0
    have s1 : ∀ y : Since w5, y.1.cell? ⟨r, 1, none⟩ = some (.int .i64 n) := fun y => (OW5.out.below y.2 OW5.out.inside).read 1
    have t3 : ∀ y : Since w5, y.1.cell? ⟨gg, 3, none⟩ = some (.slice (some ⟨b1, o1, none⟩) g.h.length vm) := fun y => (OG5.out.below y.2 OG5.out.inside).read 3
    have him : i ≤ vm := by omega
    by_cases hh : (⟨m, n⟩ : Ch) ∈ g.h.take i
    · obtain rfl : 4 = E := by rw [← hE.out, first_stop Z.out (by rw [hcl.out, if_pos hh]; decide) _ hlt, hcl.out, if_pos hh]
      rw [decide_eq_true hh] at C
      replace C := Lib.hid C
      clear hcl Z hh
      refine region_since w5 (by kernel_rfl) (by kernel_rfl) (Below.refl _ _) ?_
      repeat (go_big_quiet_step ((go_at_call 164; with_reducible exact C.out _)))
      refine wpQuiet_nil ?_
      rintro w6 ⟨z, hz⟩
      have b6 : Below w5.heap.size w5 w6 := hz ▸ z.2
      clear hz z s0 s1 t3 C
      go_wp2_with fail
      go_ret
      exact ⟨rfl, B5.out.trans (b6.mono B5.out.size)⟩
    · have Z2 := Lib.hid ((first_next Z.out).trans (hcl.out.trans (if_neg hh)))
      rw [decide_eq_false hh] at C
      replace C := Lib.hid C
      clear hcl Z hE hh
      refine region_since w5 (by kernel_rfl) (by kernel_rfl) (Below.refl _ _) ?_
      repeat (go_big_quiet_step ((go_at_call 164; with_reducible exact C.out _)))
      refine wpQuiet_nil ?_
      rintro w6 ⟨z, hz⟩
      have b6 : Below w5.heap.size w5 w6 := hz ▸ z.2
      clear hz z s0 s1 t3 C
      go_wp2_with fail
      go_roundw
      case rel => exact ⟨i + 1, hlt, by go_num, Z2, Lib.hid (D5.out.trans (b6.mono D5.out.size))⟩
      case measure => simp [intOf]; omega
end Go.Proofs.YtpblpjopinllcaaGreatDoor.graph
