/-
  graph.Inner (by gen_in.py).
  graph.Fits (by gen_ft.py).
-/
import Derived.Test.YtpblpjopinllcaaGreatDoorJGsc
import Derived.Test.YtpblpjopinllcaaGreatDoorJMk
import Derived.Test.YtpblpjopinllcaaGreatDoorJOpen
namespace Go.Proofs.YtpblpjopinllcaaGreatDoor.graph
open Go.ChangeShapes Go.WideShapes Go.ChangeAt Go.RowKit
open Go.Proofs.YtpblpjopinllcaaGreatDoor.opened Go.Proofs.YtpblpjopinllcaaGreatDoor.block Go.Proofs.YtpblpjopinllcaaGreatDoor.words
open Go.Proofs.YtpblpjopinllcaaGreatDoor.pa Go.Proofs.YtpblpjopinllcaaGreatDoor.path
/-- The way through an operator of a kind, at a depth. -/
def wayV (k x d : Int) : Pa := if k = 7 then goInV d else if k = 8 then goOutV d else if k = 9 then goOnV d else if k = 10 then goByV d x else stayV d
def wayE (k x d : Int) : Int := if k = 7 then goInE d else if k = 8 then goOutE d else if k = 9 then goOnE d else if k = 10 then goByE d x else stayE d
def inV (g : Gr) (i : Int) : Pa := if checkE g ≠ 0 then P0 else if i < 0 ∨ (g.o.length : Int) ≤ i then P0 else match g.o[i.toNat]? with
  | none => P0
  | some x => wayV x.k x.x (deepL g.l (loopV g i.toNat false))
def inE (g : Gr) (i : Int) : Int := if checkE g ≠ 0 then checkE g else if i < 0 ∨ (g.o.length : Int) ≤ i then 1 else match g.o[i.toNat]? with
  | none => 0
  | some x => wayE x.k x.x (deepL g.l (loopV g i.toNat false))
theorem num_delay {g : Gr} {x : Oq} (h : opE g x = 0) (k : x.k = 10) : 0 ≤ x.x ∧ x.x ≤ 1000 := by
  have := (opE_parts h).2.2.2.2
  unfold numsB at this
  rw [k] at this
  simp at this
  omega
set_option maxRecDepth 100000 in
set_option maxHeartbeats 2000000 in
theorem inner_any (v : Gv) (g : Gr) (F : Fit v g) (I : g.In) (i : Int) (w : World) (h : Lies4 w v g) (K : KT w) :
    Calls Tryz.prog 24 #[gV v g, .int .i64 i] w (Gives (inV g i) (inE g i) w) := by
  have CK := fun w1 (h1 : Lies4 w1 v g) (k1 : KT w1) => check_any v g F I w1 h1 k1
  have IP := isOp_any v g i
  have LA := loopAt_walk v g
  have DA := depth_any v g g.l.length (Nat.le_refl _)
  obtain ⟨va, vb, vd, ve, vi, vj, vk, vm⟩ := v
  unfold gV at CK LA DA IP ⊢
  dsimp only at CK LA DA IP ⊢
  obtain ⟨E, hE⟩ : ∃ E, inE g i = E := ⟨_, rfl⟩
  obtain ⟨V, hV⟩ : ∃ V, inV g i = V := ⟨_, rfl⟩
  rw [hE, hV]
  unfold inV at hV
  unfold inE at hE
  have b1 := fresh1 w (.cells #[.slice va g.c.length vi, .slice vb g.l.length vj, .slice vd g.o.length vk, .slice ve g.h.length vm] 27)
  have OX := Whole.fresh w 27 #[.slice va g.c.length vi, .slice vb g.l.length vj, .slice vd g.o.length vk, .slice ve g.h.length vm]
  have hgg := OX.inside
  have H1 := h.below b1
  have K1 := K.below b1
  generalize hw1 : w.alloc (.cells #[.slice va g.c.length vi, .slice vb g.l.length vj, .slice vd g.o.length vk, .slice ve g.h.length vm] 27) = w1 at b1 OX hgg H1 K1
  have b2 := fresh1 w1 (.cells #[.int .i64 P0.f, .int .i64 P0.k, .int .u32 P0.p0, .int .u32 P0.p1, .int .u32 P0.p2, .int .u32 P0.p3, .int .i64 P0.u, .int .u32 P0.l0, .int .u32 P0.l1, .int .u32 P0.l2] 53)
  have OR := Whole.fresh w1 53 #[.int .i64 P0.f, .int .i64 P0.k, .int .u32 P0.p0, .int .u32 P0.p1, .int .u32 P0.p2, .int .u32 P0.p3, .int .i64 P0.u, .int .u32 P0.l0, .int .u32 P0.l1, .int .u32 P0.l2]
  have hgr := OR.inside
  have B1 := Lib.hid (b1.trans (b2.mono b1.size))
  have OX1 := Lib.hid (OX.below b2 OX.inside)
  have H2 := Lib.hid (H1.below b2)
  have K2 := Lib.hid (K1.below b2)
  replace CK := Lib.hid CK
  replace LA := Lib.hid LA
  replace DA := Lib.hid DA
  replace IP := Lib.hid IP
  clear h H1
  go_enter Tryz.func24, Tryz.ntmps24
  go_upto_region 1 with fail
  change Code.wp _ _ _ _ (w1.alloc (.cells #[.int .i64 P0.f, .int .i64 P0.k, .int .u32 P0.p0, .int .u32 P0.p1, .int .u32 P0.p2, .int .u32 P0.p3, .int .i64 P0.u, .int .u32 P0.l0, .int .u32 P0.l1, .int .u32 P0.l2] 53))
  have hsw : w1.heap.size = w.heap.size + 1 := by rw [← hw1, size_alloc]
  generalize w1.alloc (.cells #[.int .i64 P0.f, .int .i64 P0.k, .int .u32 P0.p0, .int .u32 P0.p1, .int .u32 P0.p2, .int .u32 P0.p3, .int .i64 P0.u, .int .u32 P0.l0, .int .u32 P0.l1, .int .u32 P0.l2] 53) = w2 at b2 OR hgr B1 OX1 H2 K2 ⊢
  obtain ⟨gg, hg⟩ : ∃ gg, w.heap.size = gg := ⟨_, rfl⟩
  rw [hg] at OX1 OX hgg hsw B1 ⊢
  replace hg := Lib.hid hg
  rw [hsw] at OR hgr hgg ⊢
  replace OR := Lib.hid OR
  clear hw1 b1 b2 OX hsw K1 K
  have k := OX1.out.read
  have k0 : w2.cell? ⟨gg, 0, none⟩ = some (.slice va g.c.length vi) := k 0
  have k1 : w2.cell? ⟨gg, 1, none⟩ = some (.slice vb g.l.length vj) := k 1
  have k2 : w2.cell? ⟨gg, 2, none⟩ = some (.slice vd g.o.length vk) := k 2
  have k3 : w2.cell? ⟨gg, 3, none⟩ = some (.slice ve g.h.length vm) := k 3
  clear k
  have hB0 : gg ≤ w2.heap.size := by rw [← hg.out]; exact B1.out.size
  replace CK := Lib.hid (CK.out w2 H2.out K2.out)
  by_cases q : checkE g = 0
  case neg =>
    have e0 : checkE g = E := by rw [← hE, if_pos q]
    obtain rfl : P0 = V := by rw [← hV, if_pos q]
    rw [e0] at CK q
    have nb : (E == 0) = false := by rw [beq_eq_false_iff_ne]; exact q
    clear hE hV q LA DA e0
    go_upto_region 3 with (go_at_call 23; refine CK.out.mono ?_; rintro e w3 ⟨rfl, b3⟩; have R3 := OR.out.below b3 OR.out.inside; have B3 := B1.out.trans (b3.mono hB0))
    go_wp2_with (refine put rfl 53 (.tmp 4) _ rfl (cells := #[.int .i64 0, .int .i64 0, .int .u32 0, .int .u32 0, .int .u32 0, .int .u32 0, .int .i64 0, .int .u32 0, .int .u32 0, .int .u32 0]) (g := gg + 1) rfl rfl R3 (by kernel_rfl) rfl (by simp [Value.oneCell']) B3 (by omega) ?_; intro w9 hR9 hB9 hs9 ho9)
    exact bodyPost_ret (v := .tuple #[.agg #[.int .i64 P0.f, .int .i64 P0.k, .int .u32 P0.p0, .int .u32 P0.p1, .int .u32 P0.p2, .int .u32 P0.p3, .int .i64 P0.u, .int .u32 P0.l0, .int .u32 P0.l1, .int .u32 P0.l2], .int .i64 E]) (two_path Tryz.results24 (by rfl) (by rfl) hR9) rfl (gives_at hg hB9 rfl rfl)
  rw [if_neg (by rw [q]; decide)] at hE hV
  obtain ⟨q1, q2, q3, q4, q5⟩ := check_parts q
  obtain ⟨z1, z2, z3, z4, z5, z6⟩ := sizes_of q1
  have HU := Lib.hid (up_of q3)
  have LR := loop_range q
  have OQ := Lib.hid (fun (j : Nat) (x : Oq) (hx : g.o[j]? = some x) => oq_parts q hx)
  have IL := Lib.hid (inLoops_of q4)
  rw [q] at CK
  clear q1 q2 q3 q4 q5 q
  go_upto_region 4 with (go_at_call 23; refine CK.out.mono ?_; rintro e w3 ⟨rfl, b3⟩)
  have R3 := Lib.hid (OR.out.below b3 OR.out.inside)
  have B3 := Lib.hid (B1.out.trans (b3.mono hB0))
  have H3 := Lib.hid (H2.out.below b3)
  have OX3 := Lib.hid (OX1.out.below b3 OX1.out.inside)
  have k := OX3.out.read
  clear k0 k1 k2 k3 CK b3 OR B1 H2 OX1
  have k0 : w3.cell? ⟨gg, 0, none⟩ = some (.slice va g.c.length vi) := k 0
  have k1 : w3.cell? ⟨gg, 1, none⟩ = some (.slice vb g.l.length vj) := k 1
  have k2 : w3.cell? ⟨gg, 2, none⟩ = some (.slice vd g.o.length vk) := k 2
  have k3 : w3.cell? ⟨gg, 3, none⟩ = some (.slice ve g.h.length vm) := k 3
  clear k
  replace hB0 : gg ≤ w3.heap.size := by rw [← hg.out]; exact B3.out.size
  by_cases hp : 0 ≤ i ∧ i < (g.o.length : Int)
  case neg =>
    obtain rfl : 1 = E := by rw [← hE, if_pos (by omega)]
    obtain rfl : P0 = V := by rw [← hV, if_pos (by omega)]
    clear hE hV LA DA LR
    rw [decide_eq_false hp] at IP
    clear hp
    go_upto_region 5 with (go_at_call 91; refine (IP.out _).mono ?_; rintro e w4 ⟨rfl, b4⟩; have R4 := R3.out.below b4 R3.out.inside; have B4 := B3.out.trans (b4.mono hB0))
    go_wp2_with (refine put rfl 53 (.tmp 4) _ rfl (cells := #[.int .i64 0, .int .i64 0, .int .u32 0, .int .u32 0, .int .u32 0, .int .u32 0, .int .i64 0, .int .u32 0, .int .u32 0, .int .u32 0]) (g := gg + 1) rfl rfl R4 (by kernel_rfl) rfl (by simp [Value.oneCell']) B4 (by omega) ?_; intro w9 hR9 hB9 hs9 ho9)
    exact bodyPost_ret (v := .tuple #[.agg #[.int .i64 P0.f, .int .i64 P0.k, .int .u32 P0.p0, .int .u32 P0.p1, .int .u32 P0.p2, .int .u32 P0.p3, .int .i64 P0.u, .int .u32 P0.l0, .int .u32 P0.l1, .int .u32 P0.l2], .int .i64 1]) (two_path Tryz.results24 (by rfl) (by rfl) hR9) rfl (gives_at hg hB9 rfl rfl)
  rw [decide_eq_true hp] at IP
  rw [if_neg (by omega)] at hE hV
  obtain ⟨n, rfl⟩ : ∃ n : Nat, i = n := ⟨i.toNat, by omega⟩
  have hil : n < g.o.length := by omega
  obtain ⟨x, hx⟩ : ∃ x, g.o[n]? = some x := ⟨g.o[n], List.getElem?_eq_getElem hil⟩
  rw [Int.toNat_natCast, hx] at hE hV
  dsimp only at hE hV
  have lr := LR n false
  have XP := (OQ.out _ _ hx).2
  have C1 := fun w (hw : Lies4 w ⟨va, vb, vd, ve, vi, vj, vk, vm⟩ g) => LA.out n x hx z3 (IL.out x (List.mem_of_getElem? hx)) (2 * (n : Int)) false (by simp) w hw
  generalize loopV g n false = L at C1 lr hE hV
  have C2 := fun w (hw : Lies4 w ⟨va, vb, vd, ve, vi, vj, vk, vm⟩ g) => DA.out HU.out L (by omega) (by omega) z2 w hw
  have hd : deepL g.l L ≤ 7 := by
    have := deep_le HU.out (L + 1).toNat L (by omega) (by omega)
    unfold deepL
    omega
  generalize deepL g.l L = D at C2 hd hE hV
  replace C1 := Lib.hid C1
  replace C2 := Lib.hid C2
  replace hE := Lib.hid hE
  replace hV := Lib.hid hV
  clear LR LA DA IL OQ
  go_upto_region 6 with (go_at_call 91; refine (IP.out _).mono ?_; rintro e w4 ⟨rfl, b4⟩)
  have R4 := Lib.hid (R3.out.below b4 R3.out.inside)
  have B4 := Lib.hid (B3.out.trans (b4.mono hB0))
  have H4 := Lib.hid (H3.out.below b4)
  have OX4 := Lib.hid (OX3.out.below b4 OX3.out.inside)
  clear k0 k1 k2 k3 IP b4 R3 B3 H3 OX3 hp
  replace hB0 : gg ≤ w4.heap.size := by rw [← hg.out]; exact B4.out.size
  have k := fun (y : Since w4) => (OX4.out.below y.2 OX4.out.inside).read
  have t0 : ∀ y : Since w4, y.1.cell? ⟨gg, 0, none⟩ = some (.slice va g.c.length vi) := fun y => k y 0
  have t1 : ∀ y : Since w4, y.1.cell? ⟨gg, 1, none⟩ = some (.slice vb g.l.length vj) := fun y => k y 1
  have t2 : ∀ y : Since w4, y.1.cell? ⟨gg, 2, none⟩ = some (.slice vd g.o.length vk) := fun y => k y 2
  have t3 : ∀ y : Since w4, y.1.cell? ⟨gg, 3, none⟩ = some (.slice ve g.h.length vm) := fun y => k y 3
  clear k
  have L1 : ∀ y : Since w4, Calls Tryz.prog 93 #[.agg #[.slice va g.c.length vi, .slice vb g.l.length vj, .slice vd g.o.length vk, .slice ve g.h.length vm], .int .i64 (2 * (n : Int))] y.1 fun e w' => e = .returned (.int .i64 L) ∧ ∃ z : Since w4, w' = z.1 := fun y => since_at y (C1.out y.1 (H4.out.below y.2))
  have L2 : ∀ y : Since w4, Calls Tryz.prog 92 #[.agg #[.slice va g.c.length vi, .slice vb g.l.length vj, .slice vd g.o.length vk, .slice ve g.h.length vm], .int .i64 L] y.1 fun e w' => e = .returned (.int .i64 (D : Int)) ∧ ∃ z : Since w4, w' = z.1 := fun y => since_at y (C2.out y.1 (H4.out.below y.2))
  replace L1 := Lib.hid L1
  replace L2 := Lib.hid L2
  have IN := Lib.hid (fun w => input_any n (by omega) w)
  have lr0 := Lib.hid lr
  clear lr
  refine region_since w4 (by kernel_rfl) (by kernel_rfl) (Below.refl _ _) ?_
  repeat (go_big_quiet_step ((first | (go_at_call 94; with_reducible exact since_same IN.out _) | (go_at_call 93; with_reducible exact L1.out _) | (go_at_call 92; with_reducible exact L2.out _))))
  refine wpQuiet_nil ?_
  rintro w5 ⟨y, hw⟩
  have b5 : Below w4.heap.size w4 w5 := hw ▸ y.2
  clear hw y t0 t1 t2 t3 L1 L2 C1 C2
  have R5 := Lib.hid (R4.out.below b5 R4.out.inside)
  have B5 := Lib.hid (B4.out.trans (b5.mono hB0))
  have H5 := Lib.hid (H4.out.below b5)
  have OX5 := Lib.hid (OX4.out.below b5 OX4.out.inside)
  clear b5 R4 B4 H4 OX4
  replace hB0 : gg ≤ w5.heap.size := by rw [← hg.out]; exact B5.out.size
  have k2 : w5.cell? ⟨gg, 2, none⟩ = some (.slice vd g.o.length vk) := OX5.out.read 2
  obtain ⟨bo, oo, hA, hbo, -, e1, -, -, e4, -⟩ := at_oq H5.out.o hx
  change vd = _ at hA
  subst hA
  have hx' := Lib.hid hx
  clear hx
  by_cases c7 : x.k = 7
  · have eV := hV.out
    have eE := hE.out
    unfold wayV at eV
    unfold wayE at eE
    rw [if_pos c7] at eV eE
    rw [c7] at e1
    have CC := fun w => goIn_any (D : Int) w
    rw [eV, eE] at CC
    replace CC := Lib.hid CC
    clear eV eE hV hE hx' c7
    go_upto_region 9 with fail
    go_wp2_with (first
      | (go_at_call 95; refine (CC.out _).mono ?_; rintro e w6 ⟨rfl, b6⟩; have R6 := R5.out.below b6 R5.out.inside; have B6 := B5.out.trans (b6.mono hB0))
      | (refine put rfl 53 (.tmp 4) _ rfl (cells := #[.int .i64 V.f, .int .i64 V.k, .int .u32 V.p0, .int .u32 V.p1, .int .u32 V.p2, .int .u32 V.p3, .int .i64 V.u, .int .u32 V.l0, .int .u32 V.l1, .int .u32 V.l2]) (g := gg + 1) rfl rfl R6 (by kernel_rfl) rfl (by simp [Value.oneCell']) B6 (by omega) ?_; intro w9 hR9 hB9 hs9 ho9))
    exact bodyPost_ret (v := .tuple #[.agg #[.int .i64 V.f, .int .i64 V.k, .int .u32 V.p0, .int .u32 V.p1, .int .u32 V.p2, .int .u32 V.p3, .int .i64 V.u, .int .u32 V.l0, .int .u32 V.l1, .int .u32 V.l2], .int .i64 E]) (two_path Tryz.results24 (by rfl) (by rfl) hR9) rfl (gives_at hg hB9 rfl rfl)
  by_cases c8 : x.k = 8
  · have eV := hV.out
    have eE := hE.out
    unfold wayV at eV
    unfold wayE at eE
    rw [if_neg c7, if_pos c8] at eV eE
    rw [c8] at e1
    have CC := fun w => goOut_any (D : Int) w
    rw [eV, eE] at CC
    replace CC := Lib.hid CC
    clear eV eE hV hE hx' c7 c8
    go_upto_region 11 with fail
    go_wp2_with (first
      | (go_at_call 96; refine (CC.out _).mono ?_; rintro e w6 ⟨rfl, b6⟩; have R6 := R5.out.below b6 R5.out.inside; have B6 := B5.out.trans (b6.mono hB0))
      | (refine put rfl 53 (.tmp 4) _ rfl (cells := #[.int .i64 V.f, .int .i64 V.k, .int .u32 V.p0, .int .u32 V.p1, .int .u32 V.p2, .int .u32 V.p3, .int .i64 V.u, .int .u32 V.l0, .int .u32 V.l1, .int .u32 V.l2]) (g := gg + 1) rfl rfl R6 (by kernel_rfl) rfl (by simp [Value.oneCell']) B6 (by omega) ?_; intro w9 hR9 hB9 hs9 ho9))
    exact bodyPost_ret (v := .tuple #[.agg #[.int .i64 V.f, .int .i64 V.k, .int .u32 V.p0, .int .u32 V.p1, .int .u32 V.p2, .int .u32 V.p3, .int .i64 V.u, .int .u32 V.l0, .int .u32 V.l1, .int .u32 V.l2], .int .i64 E]) (two_path Tryz.results24 (by rfl) (by rfl) hR9) rfl (gives_at hg hB9 rfl rfl)
  by_cases c9 : x.k = 9
  · have eV := hV.out
    have eE := hE.out
    unfold wayV at eV
    unfold wayE at eE
    rw [if_neg c7, if_neg c8, if_pos c9] at eV eE
    rw [c9] at e1
    have CC := fun w => goOn_any (D : Int) w
    rw [eV, eE] at CC
    replace CC := Lib.hid CC
    clear eV eE hV hE hx' c7 c8 c9
    go_upto_region 13 with fail
    go_wp2_with (first
      | (go_at_call 97; refine (CC.out _).mono ?_; rintro e w6 ⟨rfl, b6⟩; have R6 := R5.out.below b6 R5.out.inside; have B6 := B5.out.trans (b6.mono hB0))
      | (refine put rfl 53 (.tmp 4) _ rfl (cells := #[.int .i64 V.f, .int .i64 V.k, .int .u32 V.p0, .int .u32 V.p1, .int .u32 V.p2, .int .u32 V.p3, .int .i64 V.u, .int .u32 V.l0, .int .u32 V.l1, .int .u32 V.l2]) (g := gg + 1) rfl rfl R6 (by kernel_rfl) rfl (by simp [Value.oneCell']) B6 (by omega) ?_; intro w9 hR9 hB9 hs9 ho9))
    exact bodyPost_ret (v := .tuple #[.agg #[.int .i64 V.f, .int .i64 V.k, .int .u32 V.p0, .int .u32 V.p1, .int .u32 V.p2, .int .u32 V.p3, .int .i64 V.u, .int .u32 V.l0, .int .u32 V.l1, .int .u32 V.l2], .int .i64 E]) (two_path Tryz.results24 (by rfl) (by rfl) hR9) rfl (gives_at hg hB9 rfl rfl)
  by_cases c10 : x.k = 10
  · have eV := hV.out
    have eE := hE.out
    unfold wayV at eV
    unfold wayE at eE
    rw [if_neg c7, if_neg c8, if_neg c9, if_pos c10] at eV eE
    rw [c10] at e1
    obtain ⟨d0, d1⟩ := num_delay XP c10
    have CC := fun w => goBy_any (D : Int) x.x d0 (by omega) w
    rw [eV, eE] at CC
    replace CC := Lib.hid CC
    clear eV eE hV hE hx' c7 c8 c9 c10
    go_upto_region 15 with fail
    go_wp2_with (first
      | (go_at_call 98; refine (CC.out _).mono ?_; rintro e w6 ⟨rfl, b6⟩; have R6 := R5.out.below b6 R5.out.inside; have B6 := B5.out.trans (b6.mono hB0))
      | (refine put rfl 53 (.tmp 4) _ rfl (cells := #[.int .i64 V.f, .int .i64 V.k, .int .u32 V.p0, .int .u32 V.p1, .int .u32 V.p2, .int .u32 V.p3, .int .i64 V.u, .int .u32 V.l0, .int .u32 V.l1, .int .u32 V.l2]) (g := gg + 1) rfl rfl R6 (by kernel_rfl) rfl (by simp [Value.oneCell']) B6 (by omega) ?_; intro w9 hR9 hB9 hs9 ho9))
    exact bodyPost_ret (v := .tuple #[.agg #[.int .i64 V.f, .int .i64 V.k, .int .u32 V.p0, .int .u32 V.p1, .int .u32 V.p2, .int .u32 V.p3, .int .i64 V.u, .int .u32 V.l0, .int .u32 V.l1, .int .u32 V.l2], .int .i64 E]) (two_path Tryz.results24 (by rfl) (by rfl) hR9) rfl (gives_at hg hB9 rfl rfl)
  have eV := hV.out
  have eE := hE.out
  unfold wayV at eV
  unfold wayE at eE
  rw [if_neg c7, if_neg c8, if_neg c9, if_neg c10] at eV eE
  have n7 : (x.k == 7) = false := by rw [beq_eq_false_iff_ne]; exact c7
  have n8 : (x.k == 8) = false := by rw [beq_eq_false_iff_ne]; exact c8
  have n9 : (x.k == 9) = false := by rw [beq_eq_false_iff_ne]; exact c9
  have n10 : (x.k == 10) = false := by rw [beq_eq_false_iff_ne]; exact c10
  have CC := fun w => stay_any (D : Int) w
  rw [eV, eE] at CC
  replace CC := Lib.hid CC
  clear eV eE hV hE hx' c7 c8 c9 c10
  go_upto_region 16 with fail
  go_wp2_with (first
    | (go_at_call 99; refine (CC.out _).mono ?_; rintro e w6 ⟨rfl, b6⟩; have R6 := R5.out.below b6 R5.out.inside; have B6 := B5.out.trans (b6.mono hB0))
    | (refine put rfl 53 (.tmp 4) _ rfl (cells := #[.int .i64 V.f, .int .i64 V.k, .int .u32 V.p0, .int .u32 V.p1, .int .u32 V.p2, .int .u32 V.p3, .int .i64 V.u, .int .u32 V.l0, .int .u32 V.l1, .int .u32 V.l2]) (g := gg + 1) rfl rfl R6 (by kernel_rfl) rfl (by simp [Value.oneCell']) B6 (by omega) ?_; intro w9 hR9 hB9 hs9 ho9))
  exact bodyPost_ret (v := .tuple #[.agg #[.int .i64 V.f, .int .i64 V.k, .int .u32 V.p0, .int .u32 V.p1, .int .u32 V.p2, .int .u32 V.p3, .int .i64 V.u, .int .u32 V.l0, .int .u32 V.l1, .int .u32 V.l2], .int .i64 E]) (two_path Tryz.results24 (by rfl) (by rfl) hR9) rfl (gives_at hg hB9 rfl rfl)
end Go.Proofs.YtpblpjopinllcaaGreatDoor.graph
namespace Go.Proofs.YtpblpjopinllcaaGreatDoor.graph
open Go.ChangeShapes Go.WideShapes Go.ChangeAt Go.RowKit
open Go.Proofs.YtpblpjopinllcaaGreatDoor.opened Go.Proofs.YtpblpjopinllcaaGreatDoor.block Go.Proofs.YtpblpjopinllcaaGreatDoor.words
open Go.Proofs.YtpblpjopinllcaaGreatDoor.tm Go.Proofs.YtpblpjopinllcaaGreatDoor.pa
/-- Are the rounds of a time less than those of its loops, from a loop outwards? -/
def roundsB (L : List Lo) (t : Tm) : Nat → Int → Bool
  | 0, _ => true
  | d + 1, k => match L[k.toNat]? with
    | none => true
    | some x => decide (nth t d < x.r) && roundsB L t d x.u
def fitsB (g : Gr) (p : Int) (t : Tm) : Bool := decide (locE g p = 0) && (decide (chk t = 0) && (decide (t.d = locD g p) && roundsB g.l t (locD g p) (locL g p)))
theorem deep3 {g : Gr} (h : checkE g = 0) (k : Int) (h0 : -1 ≤ k) (h1 : k < g.l.length) : deepL g.l k ≤ 3 := by
  by_cases hk : k < 0
  · rw [deep_neg hk]; omega
  · obtain ⟨i, rfl⟩ : ∃ i : Nat, k = i := ⟨k.toNat, by omega⟩
    have hi : i < g.l.length := by omega
    have z := first_zero (check_parts h).2.2.1 i hi
    unfold loE at z
    rw [List.getElem?_eq_getElem hi] at z
    dsimp only at z
    split at z
    · rename_i n0; exact absurd z n0
    · split at z
      · cases z
      · split at z
        · cases z
        · omega
theorem loc_ok {g : Gr} {p : Int} (h : locE g p = 0) : checkE g = 0 := by
  unfold locE at h
  split at h
  · rename_i k; exact absurd h k
  · rename_i k; omega
/-- Where there is no loop, there is no depth, and else one. -/
theorem deep_zero {L : List Lo} (U : UpOk L L.length) (k : Int) (h0 : -1 ≤ k) (h1 : k < L.length) : deepL L k = 0 ↔ k = -1 := by
  constructor
  · intro h
    refine Classical.byContradiction fun hk => ?_
    obtain ⟨i, rfl⟩ : ∃ i : Nat, k = i := ⟨k.toNat, by omega⟩
    rw [deep_step U (by omega) (List.getElem?_eq_getElem (by omega))] at h
    omega
  · rintro rfl
    exact deep_neg (by omega)
set_option maxRecDepth 100000 in
set_option maxHeartbeats 2000000 in
theorem fits_any (v : Gv) (g : Gr) (F : Fit v g) (I : g.In) (p : Int) (t : Tm) (it : t.In) (w : World) (h : Lies4 w v g) (K : KT w) :
    Calls Tryz.prog 29 #[gV v g, .int .i64 p, .agg #[.int .u32 t.e, .int .i64 t.d, .int .u32 t.a, .int .u32 t.b, .int .u32 t.c]] w fun e w' => e = .returned (.bool (fitsB g p t)) ∧ Below w.heap.size w w' := by
  have SC := fun w1 (h1 : Lies4 w1 v g) (k1 : KT w1) => scope_any v g F I p w1 h1 k1
  have CT := fun w => Go.Proofs.YtpblpjopinllcaaGreatDoor.stamp.check_any t it w
  obtain ⟨va, vb, vd, ve, vi, vj, vk, vm⟩ := v
  unfold gV at SC ⊢
  dsimp only at SC ⊢
  obtain ⟨R, hR⟩ : ∃ R, fitsB g p t = R := ⟨_, rfl⟩
  rw [hR]
  unfold fitsB at hR
  have b1 := fresh1 w (.cells #[.slice va g.c.length vi, .slice vb g.l.length vj, .slice vd g.o.length vk, .slice ve g.h.length vm] 27)
  have OX := Whole.fresh w 27 #[.slice va g.c.length vi, .slice vb g.l.length vj, .slice vd g.o.length vk, .slice ve g.h.length vm]
  have hgg := OX.inside
  have H1 := h.below b1
  have K1 := K.below b1
  generalize hw1 : w.alloc (.cells #[.slice va g.c.length vi, .slice vb g.l.length vj, .slice vd g.o.length vk, .slice ve g.h.length vm] 27) = w1 at b1 OX hgg H1 K1
  have b2 := fresh1 w1 (.cells #[.int .u32 t.e, .int .i64 t.d, .int .u32 t.a, .int .u32 t.b, .int .u32 t.c] 63)
  have OT := Whole.fresh w1 63 #[.int .u32 t.e, .int .i64 t.d, .int .u32 t.a, .int .u32 t.b, .int .u32 t.c]
  have B1 := Lib.hid (b1.trans (b2.mono b1.size))
  have OX1 := Lib.hid (OX.below b2 OX.inside)
  have H2 := Lib.hid (H1.below b2)
  have K2 := Lib.hid (K1.below b2)
  clear h H1
  have LRG : Hid (checkE g = 0 → -1 ≤ loopV g (p / 2).toNat (locO p) ∧ loopV g (p / 2).toNat (locO p) < g.l.length) := Lib.hid fun q => loop_range q _ _
  have E0 : Hid (locE g p = 0 → checkE g = 0 ∧ locL g p = loopV g (p / 2).toNat (locO p) ∧ locD g p = deepL g.l (locL g p)) := Lib.hid fun e => ⟨loc_ok e, by unfold locL; rw [if_pos e], by unfold locD locL; rw [if_pos e, if_pos e]⟩
  generalize locE g p = E at SC hR E0
  generalize locL g p = L at SC hR E0
  generalize locD g p = D at SC hR E0
  replace SC := Lib.hid SC
  go_enter Tryz.func29, Tryz.ntmps29
  go_upto_region 1 with fail
  change Code.wp _ _ _ _ (w1.alloc (.cells #[.int .u32 t.e, .int .i64 t.d, .int .u32 t.a, .int .u32 t.b, .int .u32 t.c] 63))
  have hsw : w1.heap.size = w.heap.size + 1 := by rw [← hw1, size_alloc]
  generalize w1.alloc (.cells #[.int .u32 t.e, .int .i64 t.d, .int .u32 t.a, .int .u32 t.b, .int .u32 t.c] 63) = w2 at b2 OT B1 OX1 H2 K2 ⊢
  rw [hsw] at OT ⊢
  obtain ⟨gg, hg⟩ : ∃ gg, w.heap.size = gg := ⟨_, rfl⟩
  rw [hg] at OX1 OT ⊢
  obtain ⟨tt, htt⟩ : ∃ tt, gg + 1 = tt := ⟨_, rfl⟩
  rw [htt] at OT ⊢
  replace OT := Lib.hid OT
  clear hw1 b1 b2 OX hsw hg htt hgg K1 K
  have k := OX1.out.read
  have k0 : w2.cell? ⟨gg, 0, none⟩ = some (.slice va g.c.length vi) := k 0
  have k1 : w2.cell? ⟨gg, 1, none⟩ = some (.slice vb g.l.length vj) := k 1
  have k2 : w2.cell? ⟨gg, 2, none⟩ = some (.slice vd g.o.length vk) := k 2
  have k3 : w2.cell? ⟨gg, 3, none⟩ = some (.slice ve g.h.length vm) := k 3
  clear k
  have hB0 := B1.out.size
  replace SC := Lib.hid (SC.out w2 H2.out K2.out)
  go_upto_region 2 with (go_at_call 25; refine SC.out.mono ?_; rintro e w3 ⟨rfl, b3⟩)
  have OT3 := Lib.hid (OT.out.below b3 OT.out.inside)
  have B3 := Lib.hid (B1.out.trans (b3.mono hB0))
  have H3 := Lib.hid (H2.out.below b3)
  have OX3 := Lib.hid (OX1.out.below b3 OX1.out.inside)
  clear k0 k1 k2 k3 SC b3 OT B1 H2 OX1
  replace hB0 := B3.out.size
  have d0 := OT3.out.read 0
  have d1 := OT3.out.read 1
  have d2 := OT3.out.read 2
  have d3 := OT3.out.read 3
  have d4 := OT3.out.read 4
  by_cases e0 : E = 0
  case neg =>
    obtain rfl : false = R := by rw [← hR, decide_eq_false e0]; rfl
    have ne : (E != 0) = true := by simpa using e0
    clear hR E0 e0
    go_wp2_with fail
    go_ret
    exact ⟨rfl, B3.out⟩
  subst e0
  obtain ⟨q, eL, eD⟩ := E0.out rfl
  obtain ⟨l0, l1⟩ := LRG.out q
  rw [← eL] at l0 l1
  have HU := Lib.hid (up_of (check_parts q).2.2.1)
  have hd3 := deep3 q L l0 l1
  rw [← eD] at hd3
  have eD' := Lib.hid eD
  clear eD
  rw [decide_eq_true rfl, Bool.true_and] at hR
  clear E0 LRG eL q
  obtain ⟨ce, hce⟩ : ∃ ce, chk t = ce := ⟨_, rfl⟩
  rw [hce] at CT hR
  replace CT := Lib.hid CT
  by_cases c0 : ce = 0
  case neg =>
    obtain rfl : false = R := by rw [← hR, decide_eq_false c0]; rfl
    have ne : (ce != 0) = true := by simpa using c0
    clear hR c0 hce
    go_wp2_with (go_at_call 103; refine (CT.out _).mono ?_; rintro e w4 ⟨rfl, b4⟩)
    go_ret
    exact ⟨rfl, B3.out.trans (b4.mono hB0)⟩
  subst c0
  rw [decide_eq_true rfl, Bool.true_and] at hR
  by_cases td : t.d = (D : Int)
  case neg =>
    obtain rfl : false = R := by rw [← hR, decide_eq_false td]; rfl
    have ne : (t.d != (D : Int)) = true := by simpa using td
    clear hR hce td
    go_wp2_with (go_at_call 103; refine (CT.out _).mono ?_; rintro e w4 ⟨rfl, b4⟩; have f1 := (OT3.out.below b4 OT3.out.inside).read 1)
    go_ret
    exact ⟨rfl, B3.out.trans (b4.mono hB0)⟩
  rw [decide_eq_true td, Bool.true_and] at hR
  replace hR := Lib.hid hR
  have TD : (t.d != (D : Int)) = false := by simpa using td
  clear hce td
  go_upto_region 4 with (go_at_call 103; refine (CT.out _).mono ?_; rintro e w4 ⟨rfl, b4⟩; have f1 := (OT3.out.below b4 OT3.out.inside).read 1)
  have OT4 := Lib.hid (OT3.out.below b4 OT3.out.inside)
  have B4 := Lib.hid (B3.out.trans (b4.mono hB0))
  have H4 := Lib.hid (H3.out.below b4)
  have OX4 := Lib.hid (OX3.out.below b4 OX3.out.inside)
  clear d0 d1 d2 d3 d4 f1 CT b4 OT3 B3 H3 OX3 TD
  replace hB0 := B4.out.size
  have k1 : w4.cell? ⟨gg, 1, none⟩ = some (.slice vb g.l.length vj) := OX4.out.read 1
  have IT := Lib.hid it
  clear it
  go_wp2_with fail
  go_loopw [7, 8] (fun a b wr => ∃ (k : Int) (d : Nat), -1 ≤ k ∧ k < g.l.length ∧ d ≤ 3 ∧ a = .int .i64 k ∧ b = .int .i64 d ∧ Hid (deepL g.l k = d) ∧ Hid (roundsB g.l t d k = R) ∧ Hid (Below w4.heap.size w4 wr)) (fun _ b _ => (intOf b).toNat)
  case atStart => exact ⟨L, D, l0, l1, hd3, rfl, rfl, Lib.hid eD'.out.symm, hR, Lib.hid (Below.refl _ _)⟩
  clear k1 hR eD' l0 l1 hd3
  case round =>
    obtain ⟨k, d, k0, kl, hd3, rfl, rfl, HD, HR, Br⟩ := hrel
    have OTr := Lib.hid (OT4.out.below Br.out OT4.out.inside)
    have OXr := Lib.hid (OX4.out.below Br.out OX4.out.inside)
    have Hr := Lib.hid (H4.out.below Br.out)
    have Bx := Lib.hid (B4.out.trans (Br.out.mono hB0))
    cases d with
    | zero =>
      obtain rfl : k = -1 := (deep_zero HU.out k k0 kl).1 HD.out
      obtain rfl : true = R := HR.out
      go_wp2_with fail
      go_ret
      exact ⟨rfl, Bx.out⟩
    | succ d =>
      have hk : k ≠ -1 := fun e => by
        have := (deep_zero HU.out k k0 kl).2 e
        have := HD.out
        omega
      obtain ⟨n, rfl⟩ : ∃ n : Nat, k = n := ⟨k.toNat, by omega⟩
      have hn : n < g.l.length := by omega
      obtain ⟨x, hx⟩ : ∃ x, g.l[n]? = some x := ⟨g.l[n], List.getElem?_eq_getElem hn⟩
      have hux := HU.out n x hn hx
      have HD2 : Hid (deepL g.l x.u = d) := Lib.hid (by have := HD.out; rw [deep_step HU.out hn hx] at this; omega)
      have HR2 : Hid ((decide (nth t d < x.r) && roundsB g.l t d x.u) = R) := Lib.hid (by rw [← HR.out]; show _ = (match g.l[(n : Int).toNat]? with | none => true | some x => decide (nth t d < x.r) && roundsB g.l t d x.u); rw [Int.toNat_natCast, hx])
      obtain ⟨b1, o1, hA, hb1, c0, c1, c2⟩ := at_lo Hr.out.l hx
      change vb = _ at hA
      subst hA
      clear HD HR hx c0
      have hk2 : ((n : Int) == -1) = false := by rw [beq_eq_false_iff_ne]; omega
      have g1 : ∀ y : Since wr, y.1.cell? ⟨gg, 1, none⟩ = some (.slice (some ⟨b1, o1, none⟩) g.l.length vj) := fun y => (OXr.out.below y.2 OXr.out.inside).read 1
      have x2 : ∀ y : Since wr, y.1.cell? ⟨b1, o1 + n * 3 + 2, none⟩ = some (.int .i64 x.r) := fun y => (y.2.cell (p := ⟨b1, o1 + n * 3 + 2, none⟩) hb1).trans c2
      clear c2
      have T2 : ∀ y : Since wr, y.1.cell? ⟨tt, 2, none⟩ = some (.int .u32 t.a) := fun y => (OTr.out.below y.2 OTr.out.inside).read 2
      have T3 : ∀ y : Since wr, y.1.cell? ⟨tt, 3, none⟩ = some (.int .u32 t.b) := fun y => (OTr.out.below y.2 OTr.out.inside).read 3
      have T4 : ∀ y : Since wr, y.1.cell? ⟨tt, 4, none⟩ = some (.int .u32 t.c) := fun y => (OTr.out.below y.2 OTr.out.inside).read 4
      have it := IT.out
      obtain ⟨-, -, -, -, ha0, ha1, hb0', hb1', hc0, hc1⟩ := it
      have hd2 : d = 0 ∨ d = 1 ∨ d = 2 := by omega
      rcases hd2 with rfl | rfl | rfl
      · have HN : Hid ((decide (t.a < x.r) && roundsB g.l t 0 x.u) = R) := HR2
        clear HR2
        have wa : IntKind.i64.wrap t.a = t.a := by rw [IntKind.wrap_i64]; omega
        by_cases cr : t.a < x.r
        · have HN2 : Hid (roundsB g.l t 0 x.u = R) := Lib.hid (by have := HN.out; rwa [decide_eq_true cr, Bool.true_and] at this)
          have cr' : ¬ x.r ≤ t.a := by omega
          clear HN cr
          go_upto_region 7 with fail
          refine region_since wr (by kernel_rfl) (by kernel_rfl) (Below.refl _ _) ?_
          repeat (go_big_quiet_step (fail))
          refine wpQuiet_nil ?_
          rintro w6 ⟨y, hw⟩
          have b6 : Below wr.heap.size wr w6 := hw ▸ y.2
          clear hw y x2 T2 T3 T4 g1 wa cr'
          have g1 : w6.cell? ⟨gg, 1, none⟩ = some (.slice (some ⟨b1, o1, none⟩) g.l.length vj) := (OXr.out.below b6 OXr.out.inside).read 1
          have u1 : w6.cell? ⟨b1, o1 + n * 3 + 1, none⟩ = some (.int .i64 x.u) := (b6.cell (p := ⟨b1, o1 + n * 3 + 1, none⟩) hb1).trans c1
          go_wp2_with fail
          go_roundw
          case rel => exact ⟨x.u, 0, hux.1, by omega, by omega, rfl, by go_num, HD2, HN2, Lib.hid (Br.out.trans (b6.mono Br.out.size))⟩
          case measure => simp [intOf]
        · obtain rfl : false = R := by rw [← HN.out, decide_eq_false cr]; rfl
          have cr' : x.r ≤ t.a := by omega
          clear HN cr
          go_upto_region 7 with fail
          refine region_since wr (by kernel_rfl) (by kernel_rfl) (Below.refl _ _) ?_
          repeat (go_big_quiet_step (fail))
          refine wpQuiet_nil ?_
          rintro w6 ⟨y, hw⟩
          have b6 : Below wr.heap.size wr w6 := hw ▸ y.2
          clear hw y x2 T2 T3 T4 g1 wa cr'
          go_wp2_with fail
          go_ret
          exact ⟨rfl, Bx.out.trans (b6.mono Bx.out.size)⟩
      · have HN : Hid ((decide (t.b < x.r) && roundsB g.l t 1 x.u) = R) := HR2
        clear HR2
        have wa : IntKind.i64.wrap t.b = t.b := by rw [IntKind.wrap_i64]; omega
        by_cases cr : t.b < x.r
        · have HN2 : Hid (roundsB g.l t 1 x.u = R) := Lib.hid (by have := HN.out; rwa [decide_eq_true cr, Bool.true_and] at this)
          have cr' : ¬ x.r ≤ t.b := by omega
          clear HN cr
          go_upto_region 7 with fail
          refine region_since wr (by kernel_rfl) (by kernel_rfl) (Below.refl _ _) ?_
          repeat (go_big_quiet_step (fail))
          refine wpQuiet_nil ?_
          rintro w6 ⟨y, hw⟩
          have b6 : Below wr.heap.size wr w6 := hw ▸ y.2
          clear hw y x2 T2 T3 T4 g1 wa cr'
          have g1 : w6.cell? ⟨gg, 1, none⟩ = some (.slice (some ⟨b1, o1, none⟩) g.l.length vj) := (OXr.out.below b6 OXr.out.inside).read 1
          have u1 : w6.cell? ⟨b1, o1 + n * 3 + 1, none⟩ = some (.int .i64 x.u) := (b6.cell (p := ⟨b1, o1 + n * 3 + 1, none⟩) hb1).trans c1
          go_wp2_with fail
          go_roundw
          case rel => exact ⟨x.u, 1, hux.1, by omega, by omega, rfl, by go_num, HD2, HN2, Lib.hid (Br.out.trans (b6.mono Br.out.size))⟩
          case measure => simp [intOf]
        · obtain rfl : false = R := by rw [← HN.out, decide_eq_false cr]; rfl
          have cr' : x.r ≤ t.b := by omega
          clear HN cr
          go_upto_region 7 with fail
          refine region_since wr (by kernel_rfl) (by kernel_rfl) (Below.refl _ _) ?_
          repeat (go_big_quiet_step (fail))
          refine wpQuiet_nil ?_
          rintro w6 ⟨y, hw⟩
          have b6 : Below wr.heap.size wr w6 := hw ▸ y.2
          clear hw y x2 T2 T3 T4 g1 wa cr'
          go_wp2_with fail
          go_ret
          exact ⟨rfl, Bx.out.trans (b6.mono Bx.out.size)⟩
      · have HN : Hid ((decide (t.c < x.r) && roundsB g.l t 2 x.u) = R) := HR2
        clear HR2
        have wa : IntKind.i64.wrap t.c = t.c := by rw [IntKind.wrap_i64]; omega
        by_cases cr : t.c < x.r
        · have HN2 : Hid (roundsB g.l t 2 x.u = R) := Lib.hid (by have := HN.out; rwa [decide_eq_true cr, Bool.true_and] at this)
          have cr' : ¬ x.r ≤ t.c := by omega
          clear HN cr
          go_upto_region 7 with fail
          refine region_since wr (by kernel_rfl) (by kernel_rfl) (Below.refl _ _) ?_
          repeat (go_big_quiet_step (fail))
          refine wpQuiet_nil ?_
          rintro w6 ⟨y, hw⟩
          have b6 : Below wr.heap.size wr w6 := hw ▸ y.2
          clear hw y x2 T2 T3 T4 g1 wa cr'
          have g1 : w6.cell? ⟨gg, 1, none⟩ = some (.slice (some ⟨b1, o1, none⟩) g.l.length vj) := (OXr.out.below b6 OXr.out.inside).read 1
          have u1 : w6.cell? ⟨b1, o1 + n * 3 + 1, none⟩ = some (.int .i64 x.u) := (b6.cell (p := ⟨b1, o1 + n * 3 + 1, none⟩) hb1).trans c1
          go_wp2_with fail
          go_roundw
          case rel => exact ⟨x.u, 2, hux.1, by omega, by omega, rfl, by go_num, HD2, HN2, Lib.hid (Br.out.trans (b6.mono Br.out.size))⟩
          case measure => simp [intOf]
        · obtain rfl : false = R := by rw [← HN.out, decide_eq_false cr]; rfl
          have cr' : x.r ≤ t.c := by omega
          clear HN cr
          go_upto_region 7 with fail
          refine region_since wr (by kernel_rfl) (by kernel_rfl) (Below.refl _ _) ?_
          repeat (go_big_quiet_step (fail))
          refine wpQuiet_nil ?_
          rintro w6 ⟨y, hw⟩
          have b6 : Below wr.heap.size wr w6 := hw ▸ y.2
          clear hw y x2 T2 T3 T4 g1 wa cr'
          go_wp2_with fail
          go_ret
          exact ⟨rfl, Bx.out.trans (b6.mono Bx.out.size)⟩
end Go.Proofs.YtpblpjopinllcaaGreatDoor.graph
