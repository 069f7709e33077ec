/-
  graph.Scope and watershedref09.Scope (by gen_sc.py).
  The graph of a text, as mathematics: the places of names, what a line lays into a graph, and that it is the same whether a name's first or last place is taken.
-/
import Derived.Test.YtpblpjopinllcaaGreatDoorJGz
import Derived.Test.YtpblpjopinllcaaGreatDoorJLayB
import Derived.Test.YtpblpjopinllcaaGreatDoorJNw
namespace Go.Proofs.YtpblpjopinllcaaGreatDoor.graph
open Go.ChangeShapes Go.WideShapes Go.ChangeAt Go.RowKit
open Go.Proofs.YtpblpjopinllcaaGreatDoor.opened Go.Proofs.YtpblpjopinllcaaGreatDoor.block Go.Proofs.YtpblpjopinllcaaGreatDoor.words
/-- What is wrong with a place of a graph. -/
def locE (g : Gr) (p : Int) : Int := if checkE g ≠ 0 then checkE g else if p < 0 ∨ 2 * (g.o.length : Int) ≤ p then 1 else 0
def locO (p : Int) : Bool := decide (p % 2 = 1)
def locL (g : Gr) (p : Int) : Int := if locE g p = 0 then loopV g (p / 2).toNat (locO p) else 0
def locD (g : Gr) (p : Int) : Nat := if locE g p = 0 then deepL g.l (loopV g (p / 2).toNat (locO p)) else 0
theorem check_parts {g : Gr} (h : checkE g = 0) : sizesE g = 0 ∧ firstE (clE g.c) g.c.length = 0 ∧ firstE (loE g.l) g.l.length = 0 ∧ firstE (oqE g) g.o.length = 0 ∧ firstE (chE g) g.h.length = 0 := by
  unfold checkE at h
  split at h
  · rename_i k; exact absurd h k
  rename_i k1
  split at h
  · rename_i k; exact absurd h k
  rename_i k2
  split at h
  · rename_i k; exact absurd h k
  rename_i k3
  split at h
  · rename_i k; exact absurd h k
  rename_i k4
  exact ⟨by omega, by omega, by omega, by omega, h⟩
theorem opE_parts {g : Gr} {x : Oq} (h : opE g x = 0) : (1 ≤ x.k ∧ x.k ≤ 14) ∧ (-1 ≤ x.l ∧ x.l < g.l.length) ∧ (0 ≤ x.a ∧ x.a < g.c.length) ∧ whereB x.k x.l = true ∧ numsB x.k x.x x.y = true := by
  unfold opE at h
  split at h
  · cases h
  split at h
  · cases h
  split at h
  · cases h
  split at h
  · cases h
  rename_i a b c d
  exact ⟨by omega, by omega, by omega, by simpa using c, by simpa using d⟩
theorem oq_parts {g : Gr} (h : checkE g = 0) {i : Nat} {x : Oq} (hx : g.o[i]? = some x) : nameE ((g.o.take i).map (·.n)) x.n = 0 ∧ opE g x = 0 := by
  have z := first_zero (check_parts h).2.2.2.1 i (List.getElem?_eq_some_iff.1 hx).1
  unfold oqE at z
  rw [hx] at z
  dsimp only at z
  split at z
  · rename_i n0; exact absurd z n0
  · rename_i n0; exact ⟨by omega, z⟩
theorem loop_range {g : Gr} (h : checkE g = 0) (i : Nat) (b : Bool) : -1 ≤ loopV g i b ∧ loopV g i b < g.l.length := by
  have U := up_of (check_parts h).2.2.1
  unfold loopV
  cases hx : g.o[i]? with
  | none => simp; omega
  | some x =>
    have P := opE_parts (oq_parts h hx).2
    dsimp only
    split
    · cases hy : g.l[x.l.toNat]? with
      | none => simp; omega
      | some y =>
        have hl := (List.getElem?_eq_some_iff.1 hy).1
        have := U _ _ hl hy
        dsimp only
        omega
    · omega
set_option maxRecDepth 100000 in
set_option maxHeartbeats 1000000 in
theorem scope_any (v : Gv) (g : Gr) (F : Fit v g) (I : g.In) (p : Int) (w : World) (h : Lies4 w v g) (K : KT w) :
    Calls Tryz.prog 25 #[gV v g, .int .i64 p] w fun e w' => e = .returned (.tuple #[.int .i64 (locL g p), .int .i64 (locD g p), .int .i64 (locE g p)]) ∧ Below w.heap.size w w' := by
  have CK := fun w1 (h1 : Lies4 w1 v g) (k1 : KT w1) => check_any v g F I w1 h1 k1
  have IP := isPlace_any v g p
  have LA := loopAt_walk v g
  have DA := depth_any v g g.l.length (Nat.le_refl _)
  obtain ⟨va, vb, vd, ve, vi, vj, vk, vm⟩ := v
  unfold gV at CK LA DA IP ⊢
  dsimp only at CK LA DA IP ⊢
  obtain ⟨E, hE⟩ : ∃ E, locE g p = E := ⟨_, rfl⟩
  obtain ⟨L, hL⟩ : ∃ L, locL g p = L := ⟨_, rfl⟩
  obtain ⟨D, hD⟩ : ∃ D, locD g p = D := ⟨_, rfl⟩
  rw [hE, hL, hD]
  unfold locL at hL
  unfold locD at hD
  rw [hE] at hL hD
  unfold locE at hE
  have hB := Lib.hid (fresh1 w (.cells #[.slice va g.c.length vi, .slice vb g.l.length vj, .slice vd g.o.length vk, .slice ve g.h.length vm] 27))
  have OX := Lib.hid (Whole.fresh w 27 #[.slice va g.c.length vi, .slice vb g.l.length vj, .slice vd g.o.length vk, .slice ve g.h.length vm])
  have H1 := Lib.hid (h.below hB.out)
  have K1 := Lib.hid (K.below hB.out)
  clear K
  clear h
  replace CK := Lib.hid CK
  replace LA := Lib.hid LA
  replace DA := Lib.hid DA
  replace IP := Lib.hid IP
  go_enter Tryz.func25, Tryz.ntmps25
  go_upto_region 1 with fail
  change Code.wp _ _ _ _ (w.alloc (.cells #[.slice va g.c.length vi, .slice vb g.l.length vj, .slice vd g.o.length vk, .slice ve g.h.length vm] 27))
  generalize w.alloc (.cells #[.slice va g.c.length vi, .slice vb g.l.length vj, .slice vd g.o.length vk, .slice ve g.h.length vm] 27) = w1 at OX hB H1 K1 ⊢
  obtain ⟨gg, hgg⟩ : ∃ gg, w.heap.size = gg := ⟨_, rfl⟩
  rw [hgg] at OX ⊢
  clear hgg
  have k := OX.out.read
  have k0 : w1.cell? ⟨gg, 0, none⟩ = some (.slice va g.c.length vi) := k 0
  have k1 : w1.cell? ⟨gg, 1, none⟩ = some (.slice vb g.l.length vj) := k 1
  have k2 : w1.cell? ⟨gg, 2, none⟩ = some (.slice vd g.o.length vk) := k 2
  have k3 : w1.cell? ⟨gg, 3, none⟩ = some (.slice ve g.h.length vm) := k 3
  clear k
  replace CK := Lib.hid (CK.out w1 H1.out K1.out)
  by_cases q : checkE g = 0
  case neg =>
    have e0 : checkE g = E := by rw [← hE, if_pos q]
    rw [e0] at CK q
    rw [if_neg q] at hL hD
    subst hL hD
    have nb : (E == 0) = false := by rw [beq_eq_false_iff_ne]; exact q
    clear hE q LA DA e0
    go_wp2_with (go_at_call 23; refine CK.out.mono ?_; rintro e w2 ⟨rfl, b2⟩)
    exact bodyPost_ret (v := .tuple #[.int .i64 0, .int .i64 0, .int .i64 E]) (by simp [results, Tryz.results25, go_sem]) rfl ⟨rfl, hB.out.trans (b2.mono hB.out.size)⟩
  rw [q, if_neg (by simp)] at hE
  obtain ⟨q1, q2, q3, q4, q5⟩ := check_parts q
  obtain ⟨z1, z2, z3, z4, z5, z6⟩ := sizes_of q1
  have HU := Lib.hid (up_of q3)
  have LR := loop_range q
  have IL := Lib.hid (inLoops_of q4)
  rw [q] at CK
  clear q1 q2 q3 q4 q5
  go_upto_region 4 with (go_at_call 23; refine CK.out.mono ?_; rintro e w2 ⟨rfl, b2⟩)
  have B2 := Lib.hid (hB.out.trans (b2.mono hB.out.size))
  have H2 := Lib.hid (H1.out.below b2)
  have k := (OX.out.below b2 OX.out.inside).read
  have OX2 := Lib.hid (OX.out.below b2 OX.out.inside)
  clear k0 k1 k2 k3 CK b2
  have k0 : w2.cell? ⟨gg, 0, none⟩ = some (.slice va g.c.length vi) := k 0
  have k1 : w2.cell? ⟨gg, 1, none⟩ = some (.slice vb g.l.length vj) := k 1
  have k2 : w2.cell? ⟨gg, 2, none⟩ = some (.slice vd g.o.length vk) := k 2
  have k3 : w2.cell? ⟨gg, 3, none⟩ = some (.slice ve g.h.length vm) := k 3
  clear k
  by_cases hp : 0 ≤ p ∧ p < 2 * (g.o.length : Int)
  case neg =>
    obtain rfl : 1 = E := by rw [← hE, if_pos (by omega)]
    rw [if_neg (by decide)] at hL hD
    subst hL hD
    replace IP := Lib.hid (IP.out z3)
    rw [decide_eq_false hp] at IP
    clear hE hp LA DA LR
    go_wp2_with (go_at_call 100; refine (IP.out _).mono ?_; rintro e w3 ⟨rfl, b3⟩)
    exact bodyPost_ret (v := .tuple #[.int .i64 0, .int .i64 0, .int .i64 1]) (by simp [results, Tryz.results25, go_sem]) rfl ⟨rfl, B2.out.trans (b3.mono B2.out.size)⟩
  replace IP := Lib.hid (IP.out z3)
  rw [decide_eq_true hp] at IP
  obtain rfl : 0 = E := by rw [← hE, if_neg (by omega)]
  rw [if_pos rfl] at hL hD
  rw [hL] at hD
  obtain ⟨i, hi⟩ : ∃ i : Nat, (p / 2).toNat = i := ⟨_, rfl⟩
  have hil : i < g.o.length := by omega
  obtain ⟨x, hx⟩ : ∃ x, g.o[i]? = some x := ⟨g.o[i], List.getElem?_eq_getElem hil⟩
  have hpe : p = 2 * (i : Int) + (if locO p then 1 else 0) := by
    unfold locO
    by_cases e : p % 2 = 1
    · rw [if_pos (by simpa using e)]; omega
    · rw [if_neg (by simpa using e)]; omega
  have lr := LR i (locO p)
  rw [hi] at hL
  rw [hL] at lr
  have C1 := fun w (hw : Lies4 w ⟨va, vb, vd, ve, vi, vj, vk, vm⟩ g) => LA.out i x hx z3 (IL.out x (List.mem_of_getElem? hx)) p (locO p) hpe w hw
  rw [hL] at C1
  replace C1 := Lib.hid C1
  have C2 := fun w (hw : Lies4 w ⟨va, vb, vd, ve, vi, vj, vk, vm⟩ g) => DA.out HU.out L (by omega) (by omega) z2 w hw
  rw [hD] at C2
  replace C2 := Lib.hid C2
  have hd : D ≤ 7 := by
    have := deep_le HU.out (L + 1).toNat L (by omega) (by omega)
    unfold deepL at hD
    omega
  obtain ⟨hp0, hp1⟩ := hp
  replace hp1 := hp1
  clear hE hL hD hi hx hpe LR LA DA IL hil lr
  go_upto_region 6 with (go_at_call 100; refine (IP.out _).mono ?_; rintro e w3 ⟨rfl, b3⟩)
  have B3 := Lib.hid (B2.out.trans (b3.mono B2.out.size))
  have H3 := Lib.hid (H2.out.below b3)
  have k := (OX2.out.below b3 OX2.out.inside).read
  have OX3 := Lib.hid (OX2.out.below b3 OX2.out.inside)
  clear k0 k1 k2 k3 IP b3
  have k0 : w3.cell? ⟨gg, 0, none⟩ = some (.slice va g.c.length vi) := k 0
  have k1 : w3.cell? ⟨gg, 1, none⟩ = some (.slice vb g.l.length vj) := k 1
  have k2 : w3.cell? ⟨gg, 2, none⟩ = some (.slice vd g.o.length vk) := k 2
  have k3 : w3.cell? ⟨gg, 3, none⟩ = some (.slice ve g.h.length vm) := k 3
  clear k
  go_upto_region 7 with (go_at_call 93; refine (C1.out _ H3.out).mono ?_; rintro e w4 ⟨rfl, b4⟩)
  have B4 := Lib.hid (B3.out.trans (b4.mono B3.out.size))
  have H4 := Lib.hid (H3.out.below b4)
  have k := (OX3.out.below b4 OX3.out.inside).read
  clear k0 k1 k2 k3 C1 b4
  have k0 : w4.cell? ⟨gg, 0, none⟩ = some (.slice va g.c.length vi) := k 0
  have k1 : w4.cell? ⟨gg, 1, none⟩ = some (.slice vb g.l.length vj) := k 1
  have k2 : w4.cell? ⟨gg, 2, none⟩ = some (.slice vd g.o.length vk) := k 2
  have k3 : w4.cell? ⟨gg, 3, none⟩ = some (.slice ve g.h.length vm) := k 3
  clear k
  go_wp2_with (go_at_call 92; refine (C2.out _ H4.out).mono ?_; rintro e w5 ⟨rfl, b5⟩)
  exact bodyPost_ret (v := .tuple #[.int .i64 L, .int .i64 D, .int .i64 0]) (by simp [results, Tryz.results25, go_sem]) rfl ⟨rfl, B4.out.trans (b5.mono B4.out.size)⟩
set_option maxRecDepth 100000 in
set_option maxHeartbeats 1000000 in
theorem scopeR_any (v : Gv) (g : Gr) (p : Int) (w : World) (h : Lies4 w v g) :
    Calls Tryz.prog 109 #[gV v g, .int .i64 p] w fun e w' => e = .returned (.tuple #[.int .i64 (locL g p), .int .i64 (locD g p), .int .i64 (locE g p)]) ∧ Below w.heap.size w w' := by
  have CK := fun w1 (h1 : Lies4 w1 v g) => checkR_any v g w1 h1
  have LA := loopOf_walk v g
  have DA := deepR_any v g g.l.length (Nat.le_refl _)
  obtain ⟨va, vb, vd, ve, vi, vj, vk, vm⟩ := v
  unfold gV at CK LA DA ⊢
  dsimp only at CK LA DA ⊢
  obtain ⟨E, hE⟩ : ∃ E, locE g p = E := ⟨_, rfl⟩
  obtain ⟨L, hL⟩ : ∃ L, locL g p = L := ⟨_, rfl⟩
  obtain ⟨D, hD⟩ : ∃ D, locD g p = D := ⟨_, rfl⟩
  rw [hE, hL, hD]
  unfold locL at hL
  unfold locD at hD
  rw [hE] at hL hD
  unfold locE at hE
  have hB := Lib.hid (fresh1 w (.cells #[.slice va g.c.length vi, .slice vb g.l.length vj, .slice vd g.o.length vk, .slice ve g.h.length vm] 36))
  have OX := Lib.hid (Whole.fresh w 36 #[.slice va g.c.length vi, .slice vb g.l.length vj, .slice vd g.o.length vk, .slice ve g.h.length vm])
  have H1 := Lib.hid (h.below hB.out)
  clear h
  replace CK := Lib.hid CK
  replace LA := Lib.hid LA
  replace DA := Lib.hid DA
  go_enter Tryz.func109, Tryz.ntmps109
  go_upto_region 1 with fail
  change Code.wp _ _ _ _ (w.alloc (.cells #[.slice va g.c.length vi, .slice vb g.l.length vj, .slice vd g.o.length vk, .slice ve g.h.length vm] 36))
  generalize w.alloc (.cells #[.slice va g.c.length vi, .slice vb g.l.length vj, .slice vd g.o.length vk, .slice ve g.h.length vm] 36) = w1 at OX hB H1 ⊢
  obtain ⟨gg, hgg⟩ : ∃ gg, w.heap.size = gg := ⟨_, rfl⟩
  rw [hgg] at OX ⊢
  clear hgg
  have k := OX.out.read
  have k0 : w1.cell? ⟨gg, 0, none⟩ = some (.slice va g.c.length vi) := k 0
  have k1 : w1.cell? ⟨gg, 1, none⟩ = some (.slice vb g.l.length vj) := k 1
  have k2 : w1.cell? ⟨gg, 2, none⟩ = some (.slice vd g.o.length vk) := k 2
  have k3 : w1.cell? ⟨gg, 3, none⟩ = some (.slice ve g.h.length vm) := k 3
  clear k
  replace CK := Lib.hid (CK.out w1 H1.out)
  by_cases q : checkE g = 0
  case neg =>
    have e0 : checkE g = E := by rw [← hE, if_pos q]
    rw [e0] at CK q
    rw [if_neg q] at hL hD
    subst hL hD
    have nb : (E == 0) = false := by rw [beq_eq_false_iff_ne]; exact q
    clear hE q LA DA e0
    go_wp2_with (go_at_call 79; refine CK.out.mono ?_; rintro e w2 ⟨rfl, b2⟩)
    exact bodyPost_ret (v := .tuple #[.int .i64 0, .int .i64 0, .int .i64 E]) (by simp [results, Tryz.results109, go_sem]) rfl ⟨rfl, hB.out.trans (b2.mono hB.out.size)⟩
  rw [q, if_neg (by simp)] at hE
  obtain ⟨q1, q2, q3, q4, q5⟩ := check_parts q
  obtain ⟨z1, z2, z3, z4, z5, z6⟩ := sizes_of q1
  have HU := Lib.hid (up_of q3)
  have LR := loop_range q
  have IL := Lib.hid (inLoops_of q4)
  rw [q] at CK
  clear q1 q2 q3 q4 q5
  go_upto_region 4 with (go_at_call 79; refine CK.out.mono ?_; rintro e w2 ⟨rfl, b2⟩)
  have B2 := Lib.hid (hB.out.trans (b2.mono hB.out.size))
  have H2 := Lib.hid (H1.out.below b2)
  have k := (OX.out.below b2 OX.out.inside).read
  have OX2 := Lib.hid (OX.out.below b2 OX.out.inside)
  clear k0 k1 k2 k3 CK b2
  have k0 : w2.cell? ⟨gg, 0, none⟩ = some (.slice va g.c.length vi) := k 0
  have k1 : w2.cell? ⟨gg, 1, none⟩ = some (.slice vb g.l.length vj) := k 1
  have k2 : w2.cell? ⟨gg, 2, none⟩ = some (.slice vd g.o.length vk) := k 2
  have k3 : w2.cell? ⟨gg, 3, none⟩ = some (.slice ve g.h.length vm) := k 3
  clear k
  by_cases hp : 0 ≤ p ∧ p < 2 * (g.o.length : Int)
  case neg =>
    obtain rfl : 1 = E := by rw [← hE, if_pos (by omega)]
    rw [if_neg (by decide)] at hL hD
    subst hL hD
    clear hE LA DA LR
    rcases Classical.em (p < 0) with p0 | p0
    · clear hp
      go_wp2_with fail
      exact bodyPost_ret (v := .tuple #[.int .i64 0, .int .i64 0, .int .i64 1]) (by simp [results, Tryz.results109, go_sem]) rfl ⟨rfl, B2.out⟩
    · have p1 : 2 * (g.o.length : Int) ≤ p := by omega
      clear hp
      go_wp2_with fail
      exact bodyPost_ret (v := .tuple #[.int .i64 0, .int .i64 0, .int .i64 1]) (by simp [results, Tryz.results109, go_sem]) rfl ⟨rfl, B2.out⟩
  obtain rfl : 0 = E := by rw [← hE, if_neg (by omega)]
  rw [if_pos rfl] at hL hD
  rw [hL] at hD
  obtain ⟨i, hi⟩ : ∃ i : Nat, (p / 2).toNat = i := ⟨_, rfl⟩
  have hil : i < g.o.length := by omega
  obtain ⟨x, hx⟩ : ∃ x, g.o[i]? = some x := ⟨g.o[i], List.getElem?_eq_getElem hil⟩
  have hpe : p = 2 * (i : Int) + (if locO p then 1 else 0) := by
    unfold locO
    by_cases e : p % 2 = 1
    · rw [if_pos (by simpa using e)]; omega
    · rw [if_neg (by simpa using e)]; omega
  have lr := LR i (locO p)
  rw [hi] at hL
  rw [hL] at lr
  have C1 := fun w (hw : Lies4 w ⟨va, vb, vd, ve, vi, vj, vk, vm⟩ g) => LA.out i x hx z3 (IL.out x (List.mem_of_getElem? hx)) p (locO p) hpe w hw
  rw [hL] at C1
  replace C1 := Lib.hid C1
  have C2 := fun w (hw : Lies4 w ⟨va, vb, vd, ve, vi, vj, vk, vm⟩ g) => DA.out HU.out L (by omega) (by omega) z2 w hw
  rw [hD] at C2
  replace C2 := Lib.hid C2
  have hd : D ≤ 7 := by
    have := deep_le HU.out (L + 1).toNat L (by omega) (by omega)
    unfold deepL at hD
    omega
  obtain ⟨hp0, hp1⟩ := hp
  replace hp1 := hp1
  clear hE hL hD hi hx hpe LR LA DA IL hil lr
  go_upto_region 6 with fail
  have B3 := B2
  have H3 := H2
  have OX3 := OX2
  go_upto_region 7 with (go_at_call 177; refine (C1.out _ H3.out).mono ?_; rintro e w4 ⟨rfl, b4⟩)
  have B4 := Lib.hid (B3.out.trans (b4.mono B3.out.size))
  have H4 := Lib.hid (H3.out.below b4)
  have k := (OX3.out.below b4 OX3.out.inside).read
  clear k0 k1 k2 k3 C1 b4
  have k0 : w4.cell? ⟨gg, 0, none⟩ = some (.slice va g.c.length vi) := k 0
  have k1 : w4.cell? ⟨gg, 1, none⟩ = some (.slice vb g.l.length vj) := k 1
  have k2 : w4.cell? ⟨gg, 2, none⟩ = some (.slice vd g.o.length vk) := k 2
  have k3 : w4.cell? ⟨gg, 3, none⟩ = some (.slice ve g.h.length vm) := k 3
  clear k
  go_wp2_with (go_at_call 152; refine (C2.out _ H4.out).mono ?_; rintro e w5 ⟨rfl, b5⟩)
  exact bodyPost_ret (v := .tuple #[.int .i64 L, .int .i64 D, .int .i64 0]) (by simp [results, Tryz.results109, go_sem]) rfl ⟨rfl, B4.out.trans (b5.mono B4.out.size)⟩
end Go.Proofs.YtpblpjopinllcaaGreatDoor.graph
set_option linter.unusedSimpArgs false
set_option linter.unusedVariables false
namespace Go.Proofs.YtpblpjopinllcaaGreatDoor.graph
open Go.Proofs.YtpblpjopinllcaaGreatDoor.words

/-! ### Places of names -/
def firstIx : List Bs → Bs → Option Nat
  | [], _ => none
  | x :: r, n => if x = n then some 0 else (firstIx r n).map (· + 1)
def revIx : List Bs → Bs → Option Nat
  | [], _ => none
  | x :: r, n => if x = n then some r.length else revIx r n
def lastIx (N : List Bs) (n : Bs) : Option Nat := revIx N.reverse n
theorem last_snoc (N : List Bs) (x n : Bs) : lastIx (N ++ [x]) n = if x = n then some N.length else lastIx N n := by
  unfold lastIx
  rw [List.reverse_append]
  show (if x = n then some N.reverse.length else revIx N.reverse n) = _
  rw [List.length_reverse]
theorem first_at : ∀ {N : List Bs} {n : Bs} {k : Nat}, firstIx N n = some k → N[k]? = some n
  | x :: r, n, k, h => by
    unfold firstIx at h
    split at h
    · rename_i e
      obtain rfl : 0 = k := Option.some.inj h
      rw [e]
      rfl
    · obtain ⟨j, hj, rfl⟩ := Option.map_eq_some_iff.1 h
      simpa using first_at hj
theorem first_none : ∀ {N : List Bs} {n : Bs}, firstIx N n = none ↔ n ∉ N
  | [], n => by simp [firstIx]
  | x :: r, n => by
    unfold firstIx
    split
    · rename_i e
      simp [e]
    · rename_i e
      rw [Option.map_eq_none_iff, first_none, List.mem_cons]
      have : ¬ n = x := fun e' => e e'.symm
      simp [this]
theorem rev_at : ∀ {N : List Bs} {n : Bs} {k : Nat}, revIx N n = some k → N.reverse[k]? = some n
  | x :: r, n, k, h => by
    unfold revIx at h
    rw [List.reverse_cons]
    split at h
    · rename_i e
      obtain rfl := Option.some.inj h
      rw [List.getElem?_append_right (by simp)]
      simp [e]
    · have ih := rev_at h
      rw [List.getElem?_append_left (List.getElem?_eq_some_iff.1 ih).1]
      exact ih
theorem rev_none : ∀ {N : List Bs} {n : Bs}, revIx N n = none ↔ n ∉ N
  | [], n => by simp [revIx]
  | x :: r, n => by
    unfold revIx
    split
    · rename_i e
      simp [e]
    · rename_i e
      rw [rev_none, List.mem_cons]
      have : ¬ n = x := fun e' => e e'.symm
      simp [this]
theorem last_at {N : List Bs} {n : Bs} {k : Nat} (h : lastIx N n = some k) : N[k]? = some n := by
  have := rev_at h
  rwa [List.reverse_reverse] at this
theorem last_none {N : List Bs} {n : Bs} : lastIx N n = none ↔ n ∉ N := by
  unfold lastIx
  rw [rev_none]
  simp
theorem nodup_at : ∀ {N : List Bs} {i j : Nat} {n : Bs}, N.Nodup → N[i]? = some n → N[j]? = some n → i = j
  | [], i, j, n, _, h, _ => by simp at h
  | x :: r, 0, 0, n, _, _, _ => rfl
  | x :: r, i + 1, j + 1, n, h, h1, h2 => by
    have := nodup_at (List.nodup_cons.1 h).2 (by simpa using h1) (by simpa using h2)
    omega
  | x :: r, 0, j + 1, n, h, h1, h2 => by
    have e : x = n := by simpa using h1
    have := List.mem_of_getElem? (show r[j]? = some n by simpa using h2)
    exact absurd (e ▸ this) (List.nodup_cons.1 h).1
  | x :: r, i + 1, 0, n, h, h1, h2 => by
    have e : x = n := by simpa using h2
    have := List.mem_of_getElem? (show r[i]? = some n by simpa using h1)
    exact absurd (e ▸ this) (List.nodup_cons.1 h).1
/-- A way to look a name's place up. -/
structure IxOk (ix : List Bs → Bs → Option Nat) : Prop where
  at_ : ∀ {N : List Bs} {n : Bs} {k : Nat}, ix N n = some k → N[k]? = some n
  none_ : ∀ {N : List Bs} {n : Bs}, ix N n = none ↔ n ∉ N
theorem ok_first : IxOk firstIx := ⟨first_at, first_none⟩
theorem ok_last : IxOk lastIx := ⟨last_at, last_none⟩
theorem IxOk.lt {ix : List Bs → Bs → Option Nat} (h : IxOk ix) {N : List Bs} {n : Bs} {k : Nat} (e : ix N n = some k) : k < N.length := (List.getElem?_eq_some_iff.1 (h.at_ e)).1
theorem IxOk.mem {ix : List Bs → Bs → Option Nat} (h : IxOk ix) {N : List Bs} {n : Bs} (e : n ∈ N) : ∃ k, ix N n = some k := by
  cases hk : ix N n with
  | some k => exact ⟨k, rfl⟩
  | none => exact absurd e (h.none_.1 hk)
theorem ix_both {ix jx : List Bs → Bs → Option Nat} (hi : IxOk ix) (hj : IxOk jx) (N : List Bs) (n : Bs) : (ix N n = none ∧ jx N n = none) ∨ ∃ a b, ix N n = some a ∧ jx N n = some b ∧ (N.Nodup → a = b) := by
  by_cases h : n ∈ N
  · obtain ⟨a, ha⟩ := hi.mem h
    obtain ⟨b, hb⟩ := hj.mem h
    exact .inr ⟨a, b, ha, hb, fun hn => nodup_at hn (hi.at_ ha) (hj.at_ hb)⟩
  · exact .inl ⟨hi.none_.2 h, hj.none_.2 h⟩

/-! ### A line -/
abbrev kwCluster : Bs := [99, 108, 117, 115, 116, 101, 114]
abbrev kwLoop : Bs := [108, 111, 111, 112]
abbrev kwOp : Bs := [111, 112]
abbrev kwFrom : Bs := [102, 114, 111, 109]
abbrev kwTo : Bs := [116, 111]
abbrev kwWorkers : Bs := [119, 111, 114, 107, 101, 114, 115, 61]
abbrev kwRounds : Bs := [114, 111, 117, 110, 100, 115, 61]
abbrev kwIn : Bs := [105, 110, 61]
abbrev kwInNo : Bs := [105, 110, 61, 45]
abbrev kwAt : Bs := [97, 116, 61]
abbrev kwA : Bs := [97, 61]
abbrev kwB : Bs := [98, 61]
/-- The number behind a front; 6: there is none. -/
def numE (front w : Bs) : Int := if Lib.hasPrefix w front = true then sgE (w.drop front.length) else 6
def numV (front w : Bs) : Int := if Lib.hasPrefix w front = true then sgV (w.drop front.length) else 0
/-- The place of the name behind a front. -/
def plE (ix : List Bs → Bs → Option Nat) (front : Bs) (N : List Bs) (w : Bs) : Int := if Lib.hasPrefix w front = true then (if (ix N (w.drop front.length)).isSome then 0 else 3) else 6
def plV (ix : List Bs → Bs → Option Nat) (front : Bs) (N : List Bs) (w : Bs) : Nat := if Lib.hasPrefix w front = true then (ix N (w.drop front.length)).getD 0 else 0
/-- The loop behind in=. -/
def lpE (ix : List Bs → Bs → Option Nat) (N : List Bs) (w : Bs) : Int := if w = kwInNo then 0 else plE ix kwIn N w
def lpV (ix : List Bs → Bs → Option Nat) (N : List Bs) (w : Bs) : Int := if w = kwInNo then -1 else (plV ix kwIn N w : Nat)
/-- The kind whose word this is; 0: it is none. -/
def kindFrom (w : Bs) : Nat → Nat → Nat
  | 0, _ => 0
  | f + 1, k => if wordB (k : Nat) = w then k else kindFrom w f (k + 1)
def kindN (w : Bs) : Nat := kindFrom w 14 1
def abE (l : List Bs) : Int := match l with
  | [] => 0
  | [x] => numE kwA x
  | x :: y :: _ => if numE kwA x ≠ 0 then numE kwA x else numE kwB y
def aV (l : List Bs) : Int := match l with
  | [] => 0
  | x :: _ => numV kwA x
def bV (l : List Bs) : Int := match l with
  | x :: y :: _ => if numE kwA x ≠ 0 then 0 else numV kwB y
  | _ => 0
abbrev Gr.cn (g : Gr) : List Bs := g.c.map (·.n)
abbrev Gr.ln (g : Gr) : List Bs := g.l.map (·.n)
abbrev Gr.on (g : Gr) : List Bs := g.o.map (·.n)
def clF (g : Gr) (w : List Bs) : Int × Gr := match w with
  | [_, n, x] => if numE kwWorkers x ≠ 0 then (numE kwWorkers x, g) else (0, { g with c := g.c ++ [⟨n, numV kwWorkers x⟩] })
  | _ => (6, g)
def loF (ix : List Bs → Bs → Option Nat) (g : Gr) (w : List Bs) : Int × Gr := match w with
  | [_, n, x, y] => if lpE ix g.ln x ≠ 0 then (lpE ix g.ln x, g) else if numE kwRounds y ≠ 0 then (numE kwRounds y, g) else (0, { g with l := g.l ++ [⟨n, lpV ix g.ln x, numV kwRounds y⟩] })
  | _ => (6, g)
def opF (ix : List Bs → Bs → Option Nat) (g : Gr) (w : List Bs) : Int × Gr := match w with
  | _ :: n :: k :: x :: y :: rest =>
    if kindN k = 0 ∨ rest.length ≠ moreK (kindN k) then (6, g) else if lpE ix g.ln x ≠ 0 then (lpE ix g.ln x, g) else if plE ix kwAt g.cn y ≠ 0 then (plE ix kwAt g.cn y, g)
    else if abE rest ≠ 0 then (abE rest, g) else (0, { g with o := g.o ++ [⟨n, (kindN k : Nat), lpV ix g.ln x, (plV ix kwAt g.cn y : Nat), aV rest, bV rest⟩] })
  | _ => (6, g)
def chF (ix : List Bs → Bs → Option Nat) (g : Gr) (w : List Bs) : Int × Gr := match w with
  | [_, a, t, b] => if plE ix [] g.on a ≠ 0 then (plE ix [] g.on a, g) else if t ≠ kwTo then (6, g) else if plE ix [] g.on b ≠ 0 then (plE ix [] g.on b, g)
    else (0, { g with h := g.h ++ [⟨(plV ix [] g.on a : Nat), (plV ix [] g.on b : Nat)⟩] })
  | _ => (6, g)
def lineF (ix : List Bs → Bs → Option Nat) (g : Gr) (w : List Bs) : Int × Gr := match w with
  | [] => (0, g)
  | k :: _ => if k = kwCluster then clF g w else if k = kwLoop then loF ix g w else if k = kwOp then opF ix g w else if k = kwFrom then chF ix g w else (70, g)
abbrev noG : Gr := ⟨[], [], [], []⟩
/-- What comes of the lines from a place on. -/
def parseF (ix : List Bs → Bs → Option Nat) : List Bs → Nat → Gr → Gr × Int × Int
  | [], _, g => if checkE g ≠ 0 then (noG, 0, checkE g) else (g, 0, 0)
  | l :: r, i, g => if (lineF ix g (splitL l)).1 ≠ 0 then (noG, (i : Int) + 1, (lineF ix g (splitL l)).1) else parseF ix r (i + 1) (lineF ix g (splitL l)).2
def parseV (ix : List Bs → Bs → Option Nat) (s : Bs) : Gr × Int × Int := parseF ix (linesL s) 0 noG

/-! ### Either way to look a name up -/
/-- Two graphs of the same lines; where names come once they are the same. -/
structure Sim (P R : Gr) : Prop where
  c : P.c = R.c
  ll : P.l.length = R.l.length
  ln : P.ln = R.ln
  l : ∀ i, (P.ln.take i).Nodup → P.l.take (i + 1) = R.l.take (i + 1)
  lo : P.o.length = R.o.length
  on : P.on = R.on
  o : P.cn.Nodup → P.ln.Nodup → P.o = R.o
  lh : P.h.length = R.h.length
  h : P.on.Nodup → P.h = R.h
theorem sim_nil : Sim noG noG := ⟨rfl, rfl, rfl, fun _ _ => rfl, rfl, rfl, fun _ _ => rfl, rfl, fun _ => rfl⟩
theorem nodup_snoc {N : List Bs} {x : Bs} (h : (N ++ [x]).Nodup) : N.Nodup := (List.nodup_append.1 h).1
theorem Sim.loops {P R : Gr} (h : Sim P R) (hn : P.ln.Nodup) : P.l = R.l := by
  have := h.l P.l.length ((List.take_sublist _ _).nodup hn)
  rwa [List.take_of_length_le (Nat.le_succ _), List.take_of_length_le (by rw [← h.ll]; exact Nat.le_succ _)] at this
theorem pl_both {ix jx : List Bs → Bs → Option Nat} (hi : IxOk ix) (hj : IxOk jx) (front : Bs) (N : List Bs) (w : Bs) : plE ix front N w = plE jx front N w ∧ (N.Nodup → plV ix front N w = plV jx front N w) := by
  unfold plE plV
  split
  · rcases ix_both hi hj N (w.drop front.length) with ⟨h1, h2⟩ | ⟨a, b, h1, h2, h3⟩
    · rw [h1, h2]
      exact ⟨rfl, fun _ => rfl⟩
    · rw [h1, h2]
      exact ⟨rfl, fun hn => h3 hn⟩
  · exact ⟨rfl, fun _ => rfl⟩
theorem in_both {ix jx : List Bs → Bs → Option Nat} (hi : IxOk ix) (hj : IxOk jx) (N : List Bs) (w : Bs) : lpE ix N w = lpE jx N w ∧ (N.Nodup → lpV ix N w = lpV jx N w) := by
  unfold lpE lpV
  have := pl_both hi hj kwIn N w
  split
  · exact ⟨rfl, fun _ => rfl⟩
  · exact ⟨this.1, fun hn => by rw [this.2 hn]⟩
/-- What an errand of a line is worth on two graphs that are alike. -/
def Both (a b : Int × Gr) : Prop := a.1 = b.1 ∧ (a.1 = 0 → Sim a.2 b.2)
theorem both_err {P R : Gr} {e : Int} (h : e ≠ 0) : Both (e, P) (e, R) := ⟨rfl, fun k => absurd k h⟩
theorem cl_both {P R : Gr} (h : Sim P R) (w : List Bs) : Both (clF P w) (clF R w) := by
  unfold clF
  split
  · rename_i n x
    split
    · rename_i h1
      exact both_err h1
    · refine ⟨rfl, fun _ => ⟨by rw [h.c], h.ll, h.ln, h.l, h.lo, h.on, fun a b => h.o ?_ b, h.lh, h.h⟩⟩
      refine nodup_snoc (x := n) ?_
      simpa [Gr.cn] using a
  · exact both_err (by decide)
theorem lo_both {ix jx : List Bs → Bs → Option Nat} (hi : IxOk ix) (hj : IxOk jx) {P R : Gr} (h : Sim P R) (w : List Bs) : Both (loF ix P w) (loF jx R w) := by
  unfold loF
  split
  · rename_i n x y
    obtain ⟨b1, b2⟩ := in_both hi hj P.ln x
    rw [h.ln] at b1
    rw [h.ln, b1]
    split
    · rename_i h1
      exact both_err h1
    · split
      · rename_i h1
        exact both_err h1
      · have hln : ∀ g : Gr, ∀ u r, ({ g with l := g.l ++ [⟨n, u, r⟩] } : Gr).ln = g.ln ++ [n] := fun g u r => by simp [Gr.ln]
        refine ⟨rfl, fun _ => ⟨h.c, by simp [h.ll], by rw [hln, hln, h.ln], fun i hn => ?_, h.lo, h.on, fun a b => h.o a (nodup_snoc (x := n) (by rwa [hln] at b)), h.lh, h.h⟩⟩
        rw [hln] at hn
        show (P.l ++ [_]).take (i + 1) = (R.l ++ [_]).take (i + 1)
        by_cases hlt : i < P.l.length
        · have hle : i ≤ P.ln.length := by simp [Gr.ln]; omega
          rw [List.take_append_of_le_length hle] at hn
          rw [List.take_append_of_le_length (by omega), List.take_append_of_le_length (by rw [← h.ll]; omega)]
          exact h.l i hn
        · have hN : P.ln.Nodup := by
            have e : (P.ln ++ [n]).take i = P.ln ++ ([n].take (i - P.ln.length)) := by
              rw [List.take_append]
              rw [List.take_of_length_le (by simp [Gr.ln]; omega)]
            rw [e] at hn
            exact (List.nodup_append.1 hn).1
          have e1 := h.loops hN
          have e2 := b2 hN
          rw [h.ln] at e2
          rw [e1, e2]
  · exact both_err (by decide)
theorem op_both {ix jx : List Bs → Bs → Option Nat} (hi : IxOk ix) (hj : IxOk jx) {P R : Gr} (h : Sim P R) (w : List Bs) : Both (opF ix P w) (opF jx R w) := by
  unfold opF
  split
  · rename_i n k x y rest
    obtain ⟨b1, b2⟩ := in_both hi hj P.ln x
    obtain ⟨c1, c2⟩ := pl_both hi hj kwAt P.cn y
    have hcn : P.cn = R.cn := by show P.c.map _ = R.c.map _; rw [h.c]
    split
    · exact both_err (by decide)
    · rw [h.ln] at b1
      rw [h.ln, b1]
      split
      · rename_i h1
        exact both_err h1
      · rw [hcn] at c1
        rw [hcn, c1]
        split
        · rename_i h1
          exact both_err h1
        · split
          · rename_i h1
            exact both_err h1
          · have hon : ∀ g : Gr, ∀ a b c d e, ({ g with o := g.o ++ [⟨n, a, b, c, d, e⟩] } : Gr).on = g.on ++ [n] := fun g a b c d e => by simp [Gr.on]
            refine ⟨rfl, fun _ => ⟨h.c, h.ll, h.ln, h.l, by simp [h.lo], by rw [hon, hon, h.on], fun a b => ?_, h.lh, fun a => h.h (nodup_snoc (x := n) (by rwa [hon] at a))⟩⟩
            have e1 := b2 b
            have e2 := c2 a
            rw [h.ln] at e1
            rw [hcn] at e2
            show P.o ++ [_] = R.o ++ [_]
            rw [h.o a b, e1, e2]
  · exact both_err (by decide)
theorem ch_both {ix jx : List Bs → Bs → Option Nat} (hi : IxOk ix) (hj : IxOk jx) {P R : Gr} (h : Sim P R) (w : List Bs) : Both (chF ix P w) (chF jx R w) := by
  unfold chF
  split
  · rename_i a t b
    obtain ⟨b1, b2⟩ := pl_both hi hj [] P.on a
    obtain ⟨c1, c2⟩ := pl_both hi hj [] P.on b
    rw [h.on] at b1 c1
    rw [h.on, b1, c1]
    split
    · rename_i h1
      exact both_err h1
    · split
      · exact both_err (by decide)
      · split
        · rename_i h1
          exact both_err h1
        · refine ⟨rfl, fun _ => ⟨h.c, h.ll, h.ln, h.l, h.lo, h.on, h.o, by simp [h.lh], fun hn => ?_⟩⟩
          have e1 := b2 hn
          have e2 := c2 hn
          rw [h.on] at e1 e2
          show P.h ++ [_] = R.h ++ [_]
          rw [h.h hn, e1, e2]
  · exact both_err (by decide)
theorem line_both {ix jx : List Bs → Bs → Option Nat} (hi : IxOk ix) (hj : IxOk jx) {P R : Gr} (h : Sim P R) (w : List Bs) : Both (lineF ix P w) (lineF jx R w) := by
  unfold lineF
  split
  · exact ⟨rfl, fun _ => h⟩
  · split
    · exact cl_both h _
    · split
      · exact lo_both hi hj h _
      · split
        · exact op_both hi hj h _
        · split
          · exact ch_both hi hj h _
          · exact both_err (by decide)
/-! ### What is wrong with two graphs that are alike -/
theorem dup_at (N : List Bs) : ∀ n, n ≤ N.length → ¬ (N.take n).Nodup → ∃ k x, N[k]? = some x ∧ x ∈ N.take k ∧ (N.take k).Nodup
  | 0, _, h => by simp at h
  | n + 1, hn, h => by
    by_cases h1 : (N.take n).Nodup
    · obtain ⟨x, hx⟩ : ∃ x, N[n]? = some x := ⟨_, List.getElem?_eq_getElem (by omega)⟩
      refine ⟨n, x, hx, Classical.byContradiction fun hm => h ?_, h1⟩
      rw [List.take_add_one, hx]
      refine List.nodup_append.2 ⟨h1, by simp, ?_⟩
      intro a ha b hb e
      have : b = x := by simpa using hb
      exact hm (this ▸ e ▸ ha)
    · exact dup_at N n (by omega) h1
theorem nodup_of {N : List Bs} {E : Nat → Int} (hE : ∀ k x, N[k]? = some x → nameE (N.take k) x ≠ 0 → E k ≠ 0) (h : firstE E N.length = 0) : N.Nodup := by
  refine Classical.byContradiction fun hn => ?_
  obtain ⟨k, x, hx, hm, -⟩ := dup_at N N.length (Nat.le_refl _) (by rwa [List.take_length])
  refine hE k x hx ?_ (first_zero h k (List.getElem?_eq_some_iff.1 hx).1)
  unfold nameE
  split
  · decide
  · first
    | decide
    | (rw [if_pos hm]; decide)
theorem take_names {α : Type} (L : List α) (f : α → Bs) (k : Nat) : (L.take k).map f = (L.map f).take k := by rw [List.map_take]
theorem cl_nodup {g : Gr} (h : firstE (clE g.c) g.c.length = 0) : g.cn.Nodup := by
  refine nodup_of (E := clE g.c) (fun k x hx hne => ?_) (by rw [List.length_map]; exact h)
  obtain ⟨y, hy, rfl⟩ : ∃ y, g.c[k]? = some y ∧ y.n = x := by simpa using hx
  unfold clE
  rw [hy]
  dsimp only
  rw [take_names, if_pos hne]
  exact hne
theorem loE_dup {L : List Lo} {k : Nat} {x : Bs} (hx : (L.map (·.n))[k]? = some x) (hne : nameE ((L.map (·.n)).take k) x ≠ 0) : loE L k ≠ 0 := by
  obtain ⟨y, hy, rfl⟩ : ∃ y, L[k]? = some y ∧ y.n = x := by simpa using hx
  unfold loE
  rw [hy]
  dsimp only
  rw [take_names, if_pos hne]
  exact hne
theorem lo_nodup {g : Gr} (h : firstE (loE g.l) g.l.length = 0) : g.ln.Nodup :=
  nodup_of (E := loE g.l) (fun k x hx hne => loE_dup hx hne) (by rw [List.length_map]; exact h)
theorem oq_nodup {g : Gr} (h : firstE (oqE g) g.o.length = 0) : g.on.Nodup := by
  refine nodup_of (E := oqE g) (fun k x hx hne => ?_) (by rw [List.length_map]; exact h)
  obtain ⟨y, hy, rfl⟩ : ∃ y, g.o[k]? = some y ∧ y.n = x := by simpa using hx
  unfold oqE
  rw [hy]
  dsimp only
  rw [take_names, if_pos hne]
  exact hne
theorem deepF_take {L : List Lo} {m n : Nat} (hnm : n ≤ m) (h : UpOk L n) : ∀ (f : Nat) (i : Int), i < n → deepF (L.take m) f i = deepF L f i
  | 0, i, _ => rfl
  | f + 1, i, hi => by
    unfold deepF
    by_cases h0 : i < 0
    · rw [if_pos h0, if_pos h0]
    · rw [if_neg h0, if_neg h0, List.getElem?_take, if_pos (by omega)]
      cases hx : L[i.toNat]? with
      | none => rfl
      | some x =>
        have := h i.toNat x (by omega) hx
        dsimp only
        rw [deepF_take hnm h f x.u (by omega)]
theorem lo_take (L : List Lo) (m : Nat) : ∀ j, j ≤ m → firstE (loE (L.take m)) j = firstE (loE L) j
  | 0, _ => rfl
  | j + 1, hj => by
    have ih := lo_take L m j (by omega)
    unfold firstE
    rw [ih]
    by_cases h0 : firstE (loE L) j = 0
    · rw [if_pos h0, if_pos h0]
      have U := up_of h0
      unfold loE
      rw [List.getElem?_take, if_pos (by omega)]
      cases hx : L[j]? with
      | none => rfl
      | some x =>
        dsimp only
        rw [List.take_take, Nat.min_eq_left (by omega)]
        split
        · rfl
        · split
          · rfl
          · rename_i h2
            have U' : UpOk L (j + 1) := fun i y hi hy => by
              by_cases e : i = j
              · subst e
                rw [hx] at hy
                obtain rfl := Option.some.inj hy
                omega
              · exact U i y (by omega) hy
            have : deepL (L.take m) j = deepL L j := deepF_take (by omega) U' _ _ (by omega)
            rw [this]
    · rw [if_neg h0, if_neg h0]
theorem lo_sim {P R : Gr} (h : Sim P R) : firstE (loE P.l) P.l.length = firstE (loE R.l) R.l.length := by
  by_cases hn : P.ln.Nodup
  · rw [h.loops hn]
  · obtain ⟨k, x, hx, hm, hk⟩ := dup_at P.ln P.ln.length (Nat.le_refl _) (by rwa [List.take_length])
    have hlt : k < P.l.length := by have := (List.getElem?_eq_some_iff.1 hx).1; simpa [Gr.ln] using this
    have e := h.l k hk
    have e1 := lo_take P.l (k + 1) (k + 1) (Nat.le_refl _)
    have e2 := lo_take R.l (k + 1) (k + 1) (Nat.le_refl _)
    rw [e, e2] at e1
    have hne : nameE (P.ln.take k) x ≠ 0 := by
      unfold nameE
      split
      · decide
      · first | decide | (rw [if_pos hm]; decide)
    have hz : firstE (loE P.l) (k + 1) ≠ 0 := by
      unfold firstE
      split
      · exact loE_dup hx hne
      · assumption
    have a := first_keep hz P.l.length (by omega)
    have b := first_keep (f := loE R.l) (k := k + 1) (by rw [e1]; exact hz) R.l.length (by rw [← h.ll]; omega)
    rw [a, b, e1]
theorem oq_same {P R : Gr} (h1 : P.o = R.o) (h2 : P.l.length = R.l.length) (h3 : P.c.length = R.c.length) : oqE P = oqE R := by
  funext i
  unfold oqE opE
  rw [h1, h2, h3]
theorem check_sim {P R : Gr} (h : Sim P R) : checkE P = checkE R ∧ (checkE P = 0 → P = R) := by
  have hs : sizesE P = sizesE R := by unfold sizesE; rw [h.c, h.ll, h.lo, h.lh]
  have hl := lo_sim h
  have key : sizesE P = 0 → firstE (clE P.c) P.c.length = 0 → firstE (loE P.l) P.l.length = 0 → P.l = R.l ∧ P.o = R.o ∧ (firstE (oqE P) P.o.length = 0 → P = R) := fun _ h2 h3 => by
    have a1 := cl_nodup h2
    have a2 := lo_nodup h3
    have b1 := h.loops a2
    have b2 := h.o a1 a2
    refine ⟨b1, b2, fun h4 => ?_⟩
    have b3 := h.h (oq_nodup h4)
    have b0 := h.c
    cases P
    cases R
    simp only at b0 b1 b2 b3
    subst b0 b1 b2 b3
    rfl
  by_cases h1 : sizesE P = 0
  · by_cases h2 : firstE (clE P.c) P.c.length = 0
    · by_cases h3 : firstE (loE P.l) P.l.length = 0
      · obtain ⟨b1, b2, b3⟩ := key h1 h2 h3
        by_cases h4 : firstE (oqE P) P.o.length = 0
        · have := b3 h4
          exact ⟨by rw [this], fun _ => this⟩
        · have e := oq_same b2 h.ll (by rw [h.c])
          have e4 : firstE (oqE P) P.o.length = firstE (oqE R) R.o.length := by rw [e, b2]
          have : checkE P = checkE R := by
            unfold checkE
            rw [hs, h.c, hl, e4]
            rw [← hs, ← hl, ← e4, ← h.c, if_neg (by simpa using h1), if_neg (by simpa using h2), if_neg (by simpa using h3), if_pos h4, if_neg (by simpa using h1), if_neg (by simpa using h2), if_neg (by simpa using h3), if_pos h4]
          refine ⟨this, fun hz => ?_⟩
          unfold checkE at hz
          rw [if_neg (by simpa using h1), if_neg (by simpa using h2), if_neg (by simpa using h3), if_pos h4] at hz
          exact absurd hz h4
      · have : checkE P = firstE (loE P.l) P.l.length := by
          unfold checkE
          rw [if_neg (by simpa using h1), if_neg (by simpa using h2), if_pos h3]
        have this2 : checkE R = firstE (loE P.l) P.l.length := by
          unfold checkE
          rw [if_neg (by rw [← hs]; simpa using h1), if_neg (by rw [← h.c]; simpa using h2), if_pos (by rw [← hl]; exact h3), hl]
        exact ⟨by rw [this, this2], fun hz => absurd (this ▸ hz) h3⟩
    · have : checkE P = firstE (clE P.c) P.c.length := by
        unfold checkE
        rw [if_neg (by simpa using h1), if_pos h2]
      have this2 : checkE R = firstE (clE P.c) P.c.length := by
        unfold checkE
        rw [if_neg (by rw [← hs]; simpa using h1), if_pos (by rw [← h.c]; exact h2), h.c]
      exact ⟨by rw [this, this2], fun hz => absurd (this ▸ hz) h2⟩
  · have : checkE P = sizesE P := by
      unfold checkE
      rw [if_pos h1]
    have this2 : checkE R = sizesE P := by
      unfold checkE
      rw [if_pos (by rw [← hs]; exact h1), hs]
    exact ⟨by rw [this, this2], fun hz => absurd (this ▸ hz) h1⟩
theorem parseF_both {ix jx : List Bs → Bs → Option Nat} (hi : IxOk ix) (hj : IxOk jx) : ∀ (L : List Bs) (i : Nat) {P R : Gr}, Sim P R → parseF ix L i P = parseF jx L i R
  | [], i, P, R, h => by
    obtain ⟨h1, h2⟩ := check_sim h
    unfold parseF
    rw [← h1]
    split
    · rfl
    · rename_i h3
      rw [h2 (by simpa using h3)]
  | l :: r, i, P, R, h => by
    obtain ⟨h1, h2⟩ := line_both hi hj h (splitL l)
    unfold parseF
    rw [← h1]
    split
    · rfl
    · rename_i h3
      exact parseF_both hi hj r (i + 1) (h2 (by simpa using h3))
/-- Whether a name's first or last place is taken, the same graph is read, or the same is wrong in the same line. -/
theorem parse_both (s : Bs) : parseV lastIx s = parseV firstIx s := parseF_both ok_last ok_first _ _ sim_nil
end Go.Proofs.YtpblpjopinllcaaGreatDoor.graph
