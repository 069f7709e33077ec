/-
  graph.Scope and watershedref09.Scope (by gen_sc.py).
-/
import Derived.Test.YtlbphlhbofjfgaaDoorJGcr
namespace Go.Proofs.YtlbphlhbofjfgaaDoor.graph
open Go.ChangeShapes Go.WideShapes Go.ChangeAt Go.RowKit
open Go.Proofs.YtlbphlhbofjfgaaDoor.opened Go.Proofs.YtlbphlhbofjfgaaDoor.block Go.Proofs.YtlbphlhbofjfgaaDoor.words
/-- What is wrong with a place of a graph. -/
def locE (g : Gr) (p : Int) : Int := if checkE g ≠ 0 then checkE g else if p < 0 ∨ 2 * (g.o.length : Int) ≤ p then 1 else 0
def locO (p : Int) : Bool := decide (p % 2 = 1)
def locL (g : Gr) (p : Int) : Int := if locE g p = 0 then loopV g (p / 2).toNat (locO p) else 0
def locD (g : Gr) (p : Int) : Nat := if locE g p = 0 then deepL g.l (loopV g (p / 2).toNat (locO p)) else 0
theorem check_parts {g : Gr} (h : checkE g = 0) : sizesE g = 0 ∧ firstE (clE g.c) g.c.length = 0 ∧ firstE (loE g.l) g.l.length = 0 ∧ firstE (oqE g) g.o.length = 0 ∧ firstE (chE g) g.h.length = 0 := by
  unfold checkE at h
  split at h
  · rename_i k; exact absurd h k
  rename_i k1
  split at h
  · rename_i k; exact absurd h k
  rename_i k2
  split at h
  · rename_i k; exact absurd h k
  rename_i k3
  split at h
  · rename_i k; exact absurd h k
  rename_i k4
  exact ⟨by omega, by omega, by omega, by omega, h⟩
theorem opE_parts {g : Gr} {x : Oq} (h : opE g x = 0) : (1 ≤ x.k ∧ x.k ≤ 14) ∧ (-1 ≤ x.l ∧ x.l < g.l.length) ∧ (0 ≤ x.a ∧ x.a < g.c.length) ∧ whereB x.k x.l = true ∧ numsB x.k x.x x.y = true := by
  unfold opE at h
  split at h
  · cases h
  split at h
  · cases h
  split at h
  · cases h
  split at h
  · cases h
  rename_i a b c d
  exact ⟨by omega, by omega, by omega, by simpa using c, by simpa using d⟩
theorem oq_parts {g : Gr} (h : checkE g = 0) {i : Nat} {x : Oq} (hx : g.o[i]? = some x) : nameE ((g.o.take i).map (·.n)) x.n = 0 ∧ opE g x = 0 := by
  have z := first_zero (check_parts h).2.2.2.1 i (List.getElem?_eq_some_iff.1 hx).1
  unfold oqE at z
  rw [hx] at z
  dsimp only at z
  split at z
  · rename_i n0; exact absurd z n0
  · rename_i n0; exact ⟨by omega, z⟩
theorem loop_range {g : Gr} (h : checkE g = 0) (i : Nat) (b : Bool) : -1 ≤ loopV g i b ∧ loopV g i b < g.l.length := by
  have U := up_of (check_parts h).2.2.1
  unfold loopV
  cases hx : g.o[i]? with
  | none => simp; omega
  | some x =>
    have P := opE_parts (oq_parts h hx).2
    dsimp only
    split
    · cases hy : g.l[x.l.toNat]? with
      | none => simp; omega
      | some y =>
        have hl := (List.getElem?_eq_some_iff.1 hy).1
        have := U _ _ hl hy
        dsimp only
        omega
    · omega
set_option maxRecDepth 100000 in
set_option maxHeartbeats 1000000 in
theorem scope_any (v : Gv) (g : Gr) (F : Fit v g) (I : g.In) (p : Int) (w : World) (h : Lies4 w v g) (K : KT w) :
    Calls Tryd.prog 16 #[gV v g, .int .i64 p] w fun e w' => e = .returned (.tuple #[.int .i64 (locL g p), .int .i64 (locD g p), .int .i64 (locE g p)]) ∧ Below w.heap.size w w' := by
  have CK := fun w1 (h1 : Lies4 w1 v g) (k1 : KT w1) => check_any v g F I w1 h1 k1
  have IP := isPlace_any v g p
  have LA := loopAt_walk v g
  have DA := depth_any v g g.l.length (Nat.le_refl _)
  obtain ⟨va, vb, vd, ve, vi, vj, vk, vm⟩ := v
  unfold gV at CK LA DA IP ⊢
  dsimp only at CK LA DA IP ⊢
  obtain ⟨E, hE⟩ : ∃ E, locE g p = E := ⟨_, rfl⟩
  obtain ⟨L, hL⟩ : ∃ L, locL g p = L := ⟨_, rfl⟩
  obtain ⟨D, hD⟩ : ∃ D, locD g p = D := ⟨_, rfl⟩
  rw [hE, hL, hD]
  unfold locL at hL
  unfold locD at hD
  rw [hE] at hL hD
  unfold locE at hE
  have hB := Lib.hid (fresh1 w (.cells #[.slice va g.c.length vi, .slice vb g.l.length vj, .slice vd g.o.length vk, .slice ve g.h.length vm] 34))
  have OX := Lib.hid (Whole.fresh w 34 #[.slice va g.c.length vi, .slice vb g.l.length vj, .slice vd g.o.length vk, .slice ve g.h.length vm])
  have H1 := Lib.hid (h.below hB.out)
  have K1 := Lib.hid (K.below hB.out)
  clear K
  clear h
  replace CK := Lib.hid CK
  replace LA := Lib.hid LA
  replace DA := Lib.hid DA
  replace IP := Lib.hid IP
  go_enter Tryd.func16, Tryd.ntmps16
  go_upto_region 1 with fail
  change Code.wp _ _ _ _ (w.alloc (.cells #[.slice va g.c.length vi, .slice vb g.l.length vj, .slice vd g.o.length vk, .slice ve g.h.length vm] 34))
  generalize w.alloc (.cells #[.slice va g.c.length vi, .slice vb g.l.length vj, .slice vd g.o.length vk, .slice ve g.h.length vm] 34) = w1 at OX hB H1 K1 ⊢
  obtain ⟨gg, hgg⟩ : ∃ gg, w.heap.size = gg := ⟨_, rfl⟩
  rw [hgg] at OX ⊢
  clear hgg
  have k := OX.out.read
  have k0 : w1.cell? ⟨gg, 0, none⟩ = some (.slice va g.c.length vi) := k 0
  have k1 : w1.cell? ⟨gg, 1, none⟩ = some (.slice vb g.l.length vj) := k 1
  have k2 : w1.cell? ⟨gg, 2, none⟩ = some (.slice vd g.o.length vk) := k 2
  have k3 : w1.cell? ⟨gg, 3, none⟩ = some (.slice ve g.h.length vm) := k 3
  clear k
  replace CK := Lib.hid (CK.out w1 H1.out K1.out)
  by_cases q : checkE g = 0
  case neg =>
    have e0 : checkE g = E := by rw [← hE, if_pos q]
    rw [e0] at CK q
    rw [if_neg q] at hL hD
    subst hL hD
    have nb : (E == 0) = false := by rw [beq_eq_false_iff_ne]; exact q
    clear hE q LA DA e0
    go_wp2_with (go_at_call 9; refine CK.out.mono ?_; rintro e w2 ⟨rfl, b2⟩)
    exact bodyPost_ret (v := .tuple #[.int .i64 0, .int .i64 0, .int .i64 E]) (by simp [results, Tryd.results16, go_sem]) rfl ⟨rfl, hB.out.trans (b2.mono hB.out.size)⟩
  rw [q, if_neg (by simp)] at hE
  obtain ⟨q1, q2, q3, q4, q5⟩ := check_parts q
  obtain ⟨z1, z2, z3, z4, z5, z6⟩ := sizes_of q1
  have HU := Lib.hid (up_of q3)
  have LR := loop_range q
  have IL := Lib.hid (inLoops_of q4)
  rw [q] at CK
  clear q1 q2 q3 q4 q5
  go_upto_region 4 with (go_at_call 9; refine CK.out.mono ?_; rintro e w2 ⟨rfl, b2⟩)
  have B2 := Lib.hid (hB.out.trans (b2.mono hB.out.size))
  have H2 := Lib.hid (H1.out.below b2)
  have k := (OX.out.below b2 OX.out.inside).read
  have OX2 := Lib.hid (OX.out.below b2 OX.out.inside)
  clear k0 k1 k2 k3 CK b2
  have k0 : w2.cell? ⟨gg, 0, none⟩ = some (.slice va g.c.length vi) := k 0
  have k1 : w2.cell? ⟨gg, 1, none⟩ = some (.slice vb g.l.length vj) := k 1
  have k2 : w2.cell? ⟨gg, 2, none⟩ = some (.slice vd g.o.length vk) := k 2
  have k3 : w2.cell? ⟨gg, 3, none⟩ = some (.slice ve g.h.length vm) := k 3
  clear k
  by_cases hp : 0 ≤ p ∧ p < 2 * (g.o.length : Int)
  case neg =>
    obtain rfl : 1 = E := by rw [← hE, if_pos (by omega)]
    rw [if_neg (by decide)] at hL hD
    subst hL hD
    replace IP := Lib.hid (IP.out z3)
    rw [decide_eq_false hp] at IP
    clear hE hp LA DA LR
    go_wp2_with (go_at_call 41; refine (IP.out _).mono ?_; rintro e w3 ⟨rfl, b3⟩)
    exact bodyPost_ret (v := .tuple #[.int .i64 0, .int .i64 0, .int .i64 1]) (by simp [results, Tryd.results16, go_sem]) rfl ⟨rfl, B2.out.trans (b3.mono B2.out.size)⟩
  replace IP := Lib.hid (IP.out z3)
  rw [decide_eq_true hp] at IP
  obtain rfl : 0 = E := by rw [← hE, if_neg (by omega)]
  rw [if_pos rfl] at hL hD
  rw [hL] at hD
  obtain ⟨i, hi⟩ : ∃ i : Nat, (p / 2).toNat = i := ⟨_, rfl⟩
  have hil : i < g.o.length := by omega
  obtain ⟨x, hx⟩ : ∃ x, g.o[i]? = some x := ⟨g.o[i], List.getElem?_eq_getElem hil⟩
  have hpe : p = 2 * (i : Int) + (if locO p then 1 else 0) := by
    unfold locO
    by_cases e : p % 2 = 1
    · rw [if_pos (by simpa using e)]; omega
    · rw [if_neg (by simpa using e)]; omega
  have lr := LR i (locO p)
  rw [hi] at hL
  rw [hL] at lr
  have C1 := fun w (hw : Lies4 w ⟨va, vb, vd, ve, vi, vj, vk, vm⟩ g) => LA.out i x hx z3 (IL.out x (List.mem_of_getElem? hx)) p (locO p) hpe w hw
  rw [hL] at C1
  replace C1 := Lib.hid C1
  have C2 := fun w (hw : Lies4 w ⟨va, vb, vd, ve, vi, vj, vk, vm⟩ g) => DA.out HU.out L (by omega) (by omega) z2 w hw
  rw [hD] at C2
  replace C2 := Lib.hid C2
  have hd : D ≤ 7 := by
    have := deep_le HU.out (L + 1).toNat L (by omega) (by omega)
    unfold deepL at hD
    omega
  obtain ⟨hp0, hp1⟩ := hp
  replace hp1 := hp1
  clear hE hL hD hi hx hpe LR LA DA IL hil lr
  go_upto_region 6 with (go_at_call 41; refine (IP.out _).mono ?_; rintro e w3 ⟨rfl, b3⟩)
  have B3 := Lib.hid (B2.out.trans (b3.mono B2.out.size))
  have H3 := Lib.hid (H2.out.below b3)
  have k := (OX2.out.below b3 OX2.out.inside).read
  have OX3 := Lib.hid (OX2.out.below b3 OX2.out.inside)
  clear k0 k1 k2 k3 IP b3
  have k0 : w3.cell? ⟨gg, 0, none⟩ = some (.slice va g.c.length vi) := k 0
  have k1 : w3.cell? ⟨gg, 1, none⟩ = some (.slice vb g.l.length vj) := k 1
  have k2 : w3.cell? ⟨gg, 2, none⟩ = some (.slice vd g.o.length vk) := k 2
  have k3 : w3.cell? ⟨gg, 3, none⟩ = some (.slice ve g.h.length vm) := k 3
  clear k
  go_upto_region 7 with (go_at_call 42; refine (C1.out _ H3.out).mono ?_; rintro e w4 ⟨rfl, b4⟩)
  have B4 := Lib.hid (B3.out.trans (b4.mono B3.out.size))
  have H4 := Lib.hid (H3.out.below b4)
  have k := (OX3.out.below b4 OX3.out.inside).read
  clear k0 k1 k2 k3 C1 b4
  have k0 : w4.cell? ⟨gg, 0, none⟩ = some (.slice va g.c.length vi) := k 0
  have k1 : w4.cell? ⟨gg, 1, none⟩ = some (.slice vb g.l.length vj) := k 1
  have k2 : w4.cell? ⟨gg, 2, none⟩ = some (.slice vd g.o.length vk) := k 2
  have k3 : w4.cell? ⟨gg, 3, none⟩ = some (.slice ve g.h.length vm) := k 3
  clear k
  go_wp2_with (go_at_call 43; refine (C2.out _ H4.out).mono ?_; rintro e w5 ⟨rfl, b5⟩)
  exact bodyPost_ret (v := .tuple #[.int .i64 L, .int .i64 D, .int .i64 0]) (by simp [results, Tryd.results16, go_sem]) rfl ⟨rfl, B4.out.trans (b5.mono B4.out.size)⟩
set_option maxRecDepth 100000 in
set_option maxHeartbeats 1000000 in
theorem scopeR_any (v : Gv) (g : Gr) (p : Int) (w : World) (h : Lies4 w v g) :
    Calls Tryd.prog 17 #[gV v g, .int .i64 p] w fun e w' => e = .returned (.tuple #[.int .i64 (locL g p), .int .i64 (locD g p), .int .i64 (locE g p)]) ∧ Below w.heap.size w w' := by
  have CK := fun w1 (h1 : Lies4 w1 v g) => checkR_any v g w1 h1
  have LA := loopOf_walk v g
  have DA := deepR_any v g g.l.length (Nat.le_refl _)
  obtain ⟨va, vb, vd, ve, vi, vj, vk, vm⟩ := v
  unfold gV at CK LA DA ⊢
  dsimp only at CK LA DA ⊢
  obtain ⟨E, hE⟩ : ∃ E, locE g p = E := ⟨_, rfl⟩
  obtain ⟨L, hL⟩ : ∃ L, locL g p = L := ⟨_, rfl⟩
  obtain ⟨D, hD⟩ : ∃ D, locD g p = D := ⟨_, rfl⟩
  rw [hE, hL, hD]
  unfold locL at hL
  unfold locD at hD
  rw [hE] at hL hD
  unfold locE at hE
  have hB := Lib.hid (fresh1 w (.cells #[.slice va g.c.length vi, .slice vb g.l.length vj, .slice vd g.o.length vk, .slice ve g.h.length vm] 27))
  have OX := Lib.hid (Whole.fresh w 27 #[.slice va g.c.length vi, .slice vb g.l.length vj, .slice vd g.o.length vk, .slice ve g.h.length vm])
  have H1 := Lib.hid (h.below hB.out)
  clear h
  replace CK := Lib.hid CK
  replace LA := Lib.hid LA
  replace DA := Lib.hid DA
  go_enter Tryd.func17, Tryd.ntmps17
  go_upto_region 1 with fail
  change Code.wp _ _ _ _ (w.alloc (.cells #[.slice va g.c.length vi, .slice vb g.l.length vj, .slice vd g.o.length vk, .slice ve g.h.length vm] 27))
  generalize w.alloc (.cells #[.slice va g.c.length vi, .slice vb g.l.length vj, .slice vd g.o.length vk, .slice ve g.h.length vm] 27) = w1 at OX hB H1 ⊢
  obtain ⟨gg, hgg⟩ : ∃ gg, w.heap.size = gg := ⟨_, rfl⟩
  rw [hgg] at OX ⊢
  clear hgg
  have k := OX.out.read
  have k0 : w1.cell? ⟨gg, 0, none⟩ = some (.slice va g.c.length vi) := k 0
  have k1 : w1.cell? ⟨gg, 1, none⟩ = some (.slice vb g.l.length vj) := k 1
  have k2 : w1.cell? ⟨gg, 2, none⟩ = some (.slice vd g.o.length vk) := k 2
  have k3 : w1.cell? ⟨gg, 3, none⟩ = some (.slice ve g.h.length vm) := k 3
  clear k
  replace CK := Lib.hid (CK.out w1 H1.out)
  by_cases q : checkE g = 0
  case neg =>
    have e0 : checkE g = E := by rw [← hE, if_pos q]
    rw [e0] at CK q
    rw [if_neg q] at hL hD
    subst hL hD
    have nb : (E == 0) = false := by rw [beq_eq_false_iff_ne]; exact q
    clear hE q LA DA e0
    go_wp2_with (go_at_call 10; refine CK.out.mono ?_; rintro e w2 ⟨rfl, b2⟩)
    exact bodyPost_ret (v := .tuple #[.int .i64 0, .int .i64 0, .int .i64 E]) (by simp [results, Tryd.results17, go_sem]) rfl ⟨rfl, hB.out.trans (b2.mono hB.out.size)⟩
  rw [q, if_neg (by simp)] at hE
  obtain ⟨q1, q2, q3, q4, q5⟩ := check_parts q
  obtain ⟨z1, z2, z3, z4, z5, z6⟩ := sizes_of q1
  have HU := Lib.hid (up_of q3)
  have LR := loop_range q
  have IL := Lib.hid (inLoops_of q4)
  rw [q] at CK
  clear q1 q2 q3 q4 q5
  go_upto_region 4 with (go_at_call 10; refine CK.out.mono ?_; rintro e w2 ⟨rfl, b2⟩)
  have B2 := Lib.hid (hB.out.trans (b2.mono hB.out.size))
  have H2 := Lib.hid (H1.out.below b2)
  have k := (OX.out.below b2 OX.out.inside).read
  have OX2 := Lib.hid (OX.out.below b2 OX.out.inside)
  clear k0 k1 k2 k3 CK b2
  have k0 : w2.cell? ⟨gg, 0, none⟩ = some (.slice va g.c.length vi) := k 0
  have k1 : w2.cell? ⟨gg, 1, none⟩ = some (.slice vb g.l.length vj) := k 1
  have k2 : w2.cell? ⟨gg, 2, none⟩ = some (.slice vd g.o.length vk) := k 2
  have k3 : w2.cell? ⟨gg, 3, none⟩ = some (.slice ve g.h.length vm) := k 3
  clear k
  by_cases hp : 0 ≤ p ∧ p < 2 * (g.o.length : Int)
  case neg =>
    obtain rfl : 1 = E := by rw [← hE, if_pos (by omega)]
    rw [if_neg (by decide)] at hL hD
    subst hL hD
    clear hE LA DA LR
    rcases Classical.em (p < 0) with p0 | p0
    · clear hp
      go_wp2_with fail
      exact bodyPost_ret (v := .tuple #[.int .i64 0, .int .i64 0, .int .i64 1]) (by simp [results, Tryd.results17, go_sem]) rfl ⟨rfl, B2.out⟩
    · have p1 : 2 * (g.o.length : Int) ≤ p := by omega
      clear hp
      go_wp2_with fail
      exact bodyPost_ret (v := .tuple #[.int .i64 0, .int .i64 0, .int .i64 1]) (by simp [results, Tryd.results17, go_sem]) rfl ⟨rfl, B2.out⟩
  obtain rfl : 0 = E := by rw [← hE, if_neg (by omega)]
  rw [if_pos rfl] at hL hD
  rw [hL] at hD
  obtain ⟨i, hi⟩ : ∃ i : Nat, (p / 2).toNat = i := ⟨_, rfl⟩
  have hil : i < g.o.length := by omega
  obtain ⟨x, hx⟩ : ∃ x, g.o[i]? = some x := ⟨g.o[i], List.getElem?_eq_getElem hil⟩
  have hpe : p = 2 * (i : Int) + (if locO p then 1 else 0) := by
    unfold locO
    by_cases e : p % 2 = 1
    · rw [if_pos (by simpa using e)]; omega
    · rw [if_neg (by simpa using e)]; omega
  have lr := LR i (locO p)
  rw [hi] at hL
  rw [hL] at lr
  have C1 := fun w (hw : Lies4 w ⟨va, vb, vd, ve, vi, vj, vk, vm⟩ g) => LA.out i x hx z3 (IL.out x (List.mem_of_getElem? hx)) p (locO p) hpe w hw
  rw [hL] at C1
  replace C1 := Lib.hid C1
  have C2 := fun w (hw : Lies4 w ⟨va, vb, vd, ve, vi, vj, vk, vm⟩ g) => DA.out HU.out L (by omega) (by omega) z2 w hw
  rw [hD] at C2
  replace C2 := Lib.hid C2
  have hd : D ≤ 7 := by
    have := deep_le HU.out (L + 1).toNat L (by omega) (by omega)
    unfold deepL at hD
    omega
  obtain ⟨hp0, hp1⟩ := hp
  replace hp1 := hp1
  clear hE hL hD hi hx hpe LR LA DA IL hil lr
  go_upto_region 6 with fail
  have B3 := B2
  have H3 := H2
  have OX3 := OX2
  go_upto_region 7 with (go_at_call 44; refine (C1.out _ H3.out).mono ?_; rintro e w4 ⟨rfl, b4⟩)
  have B4 := Lib.hid (B3.out.trans (b4.mono B3.out.size))
  have H4 := Lib.hid (H3.out.below b4)
  have k := (OX3.out.below b4 OX3.out.inside).read
  clear k0 k1 k2 k3 C1 b4
  have k0 : w4.cell? ⟨gg, 0, none⟩ = some (.slice va g.c.length vi) := k 0
  have k1 : w4.cell? ⟨gg, 1, none⟩ = some (.slice vb g.l.length vj) := k 1
  have k2 : w4.cell? ⟨gg, 2, none⟩ = some (.slice vd g.o.length vk) := k 2
  have k3 : w4.cell? ⟨gg, 3, none⟩ = some (.slice ve g.h.length vm) := k 3
  clear k
  go_wp2_with (go_at_call 38; refine (C2.out _ H4.out).mono ?_; rintro e w5 ⟨rfl, b5⟩)
  exact bodyPost_ret (v := .tuple #[.int .i64 L, .int .i64 D, .int .i64 0]) (by simp [results, Tryd.results17, go_sem]) rfl ⟨rfl, B4.out.trans (b5.mono B4.out.size)⟩
end Go.Proofs.YtlbphlhbofjfgaaDoor.graph
