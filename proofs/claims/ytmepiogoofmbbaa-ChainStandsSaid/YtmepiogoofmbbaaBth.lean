/-
  The contracts of chain.checkBoth and watershedref06.both.
-/
import Derived.Test.YtmepiogoofmbbaaCkR
namespace Go.Proofs.Ytmepiogoofmbbaa.chain
open Go.ChangeShapes Go.WideShapes Go.ChangeAt Go.RowKit Go.Shelf Go.Sort
open Go.Proofs.Ytmepiogoofmbbaa.tm Go.Proofs.Ytmepiogoofmbbaa.opened Go.Proofs.Ytmepiogoofmbbaa.block Go.Proofs.Ytmepiogoofmbbaa.stamp

theorem both_first {A B : List Tm} {iA : InL A} {iB : InL B} (h : checkE A iA ≠ 0) : bothE A B iA iB = checkE A iA := by unfold bothE; rw [if_pos h]
theorem both_second {A B : List Tm} {iA : InL A} {iB : InL B} (h : checkE A iA = 0) (k : checkE B iB ≠ 0) : bothE A B iA iB = checkE B iB := by
  unfold bothE; rw [if_neg (fun q => q h), if_pos k]
theorem both_none {A B : List Tm} {iA : InL A} {iB : InL B} (h : checkE A iA = 0) (k : checkE B iB = 0) (n : A = [] ∨ B = []) : bothE A B iA iB = 0 := by
  unfold bothE
  rw [if_neg (fun q => q h), if_neg (fun q => q k), if_neg]
  rintro ⟨u, v, -⟩
  exact n.elim u v
theorem both_deep {A B : List Tm} {iA : InL A} {iB : InL B} {x y : Tm} (h : checkE A iA = 0) (k : checkE B iB = 0) (hx : A[0]? = some x) (hy : B[0]? = some y) : bothE A B iA iB = if x.d = y.d then 0 else 10 := by
  unfold bothE
  rw [if_neg (fun q => q h), if_neg (fun q => q k), head_of hx, head_of hy]
  have u : A ≠ [] := by rintro rfl; simp at hx
  have v : B ≠ [] := by rintro rfl; simp at hy
  by_cases e : x.d = y.d
  · rw [if_pos e, if_neg (fun q => q.2.2 e)]
  · rw [if_neg e, if_pos ⟨u, v, e⟩]
set_option maxRecDepth 100000 in
theorem checkBoth_any (A B : Option Addr) (c d : Nat) (L M : List Tm) (iL : InL L) (iM : InL M) (mL : L.length ≤ 4611686018427387903) (mM : M.length ≤ 4611686018427387903) (w : World) (hL : Lt w A L) (hM : Lt w B M) :
    Calls Try.prog 63 #[.slice A L.length c, .slice B M.length d] w fun e W' => e = .returned (.int .i64 (bothE L M iL iM)) ∧ Below w.heap.size w W' := by
  have HL := Lib.hid hL
  have HM := Lib.hid hM
  have C1 := Lib.hid (check_chain A c L iL mL)
  have C2 := Lib.hid (check_chain B d M iM mM)
  clear hL hM
  by_cases h1 : checkE L iL = 0
  · by_cases h2 : checkE M iM = 0
    · by_cases n : L = [] ∨ M = []
      · rw [both_none h1 h2 n]
        rw [h1] at C1
        rw [h2] at C2
        clear h1 h2
        by_cases nL : L = []
        · subst nL
          clear n
          go_enter Try.func63, Try.ntmps63
          go_wp2_with fail
          refine (C1.out _ HL.out).mono ?_
          rintro e w1 ⟨rfl, b1⟩
          go_wp2_with fail
          refine (C2.out _ (HM.out.below b1)).mono ?_
          rintro e w2 ⟨rfl, b2⟩
          go_wp2_with fail
          refine region_since w2 (by kernel_rfl) (by kernel_rfl) (Below.refl _ _) ?_
          repeat (go_big_quiet_step (fail))
          refine wpQuiet_nil ?_
          rintro w4 ⟨z, hw⟩
          have B2 : Below w1.heap.size w1 w4 := b2.trans ((hw ▸ z.2 : Below w2.heap.size w2 w4).mono b2.size)
          clear hw z
          go_wp2_with fail
          go_ret
          exact ⟨rfl, b1.trans (B2.mono b1.size)⟩
        · have nM : M = [] := n.resolve_left nL
          subst nM
          obtain ⟨x, r, rfl⟩ : ∃ x r, L = x :: r := by cases L with | nil => exact absurd rfl nL | cons x r => exact ⟨x, r, rfl⟩
          have hpos : 0 < (x :: r).length := by simp
          have hq := decide_eq_true hpos
          generalize x :: r = L at hpos hq HL C1 mL
          clear n nL
          go_enter Try.func63, Try.ntmps63
          go_wp2_with fail
          refine (C1.out _ HL.out).mono ?_
          rintro e w1 ⟨rfl, b1⟩
          go_wp2_with fail
          refine (C2.out _ (HM.out.below b1)).mono ?_
          rintro e w2 ⟨rfl, b2⟩
          go_wp2_with fail
          refine region_since w2 (by kernel_rfl) (by kernel_rfl) (Below.refl _ _) ?_
          repeat (go_big_quiet_step (fail))
          refine wpQuiet_nil ?_
          rintro w4 ⟨z, hw⟩
          have B2 : Below w1.heap.size w1 w4 := b2.trans ((hw ▸ z.2 : Below w2.heap.size w2 w4).mono b2.size)
          clear hw z
          go_wp2_with fail
          go_ret
          exact ⟨rfl, b1.trans (B2.mono b1.size)⟩
      · obtain ⟨x, hx, -⟩ := get_lt (L := L) (k := 0) (by cases L with | nil => exact absurd (.inl rfl) n | cons x r => simp)
        obtain ⟨y, hy, -⟩ := get_lt (L := M) (k := 0) (by cases M with | nil => exact absurd (.inr rfl) n | cons x r => simp)
        rw [both_deep h1 h2 hx hy]
        rw [h1] at C1
        rw [h2] at C2
        have hp1 : 0 < L.length := (List.getElem?_eq_some_iff.1 hx).1
        have hq1 := decide_eq_true hp1
        have hp2 : 0 < M.length := (List.getElem?_eq_some_iff.1 hy).1
        have hq2 := decide_eq_true hp2
        have HX := Lib.hid hx
        have HY := Lib.hid hy
        obtain ⟨v, hv⟩ : ∃ v : Int, (if x.d = y.d then (0 : Int) else 10) = v := ⟨_, rfl⟩
        rw [hv]
        have HV := Lib.hid hv
        clear h1 h2 n hx hy hv
        by_cases hd : x.d = y.d
        · skip
          obtain rfl : (0 : Int) = v := by have := HV.out; rwa [if_pos hd] at this
          clear HV
          go_enter Try.func63, Try.ntmps63
          go_wp2_with fail
          refine (C1.out _ HL.out).mono ?_
          rintro e w1 ⟨rfl, b1⟩
          go_wp2_with fail
          refine (C2.out _ (HM.out.below b1)).mono ?_
          rintro e w2 ⟨rfl, b2⟩
          obtain ⟨g1, o1, hA1, k1, -, c1, -⟩ := ((HL.out.below b1).below b2).at HX.out
          obtain ⟨g2, o2, hA2, k2, -, c2, -⟩ := ((HM.out.below b1).below b2).at HY.out
          subst hA1 hA2
          rw [Nat.zero_mul] at c1 c2
          have s1 : ∀ z : Since w2, z.1.cell? ⟨g1, o1 + 1, none⟩ = some (.int .i64 x.d) := fun z => (z.2.cell k1).trans c1
          have s2 : ∀ z : Since w2, z.1.cell? ⟨g2, o2 + 1, none⟩ = some (.int .i64 y.d) := fun z => (z.2.cell k2).trans c2
          clear c1 c2
          go_wp2_with fail
          refine region_since w2 (by kernel_rfl) (by kernel_rfl) (Below.refl _ _) ?_
          repeat (go_big_quiet_step (fail))
          refine wpQuiet_nil ?_
          rintro w4 ⟨z, hw⟩
          have B2 : Below w1.heap.size w1 w4 := b2.trans ((hw ▸ z.2 : Below w2.heap.size w2 w4).mono b2.size)
          clear hw z
          clear s1 s2
          go_wp2_with fail
          go_ret
          exact ⟨rfl, b1.trans (B2.mono b1.size)⟩
        · skip
          obtain rfl : (10 : Int) = v := by have := HV.out; rwa [if_neg hd] at this
          clear HV
          go_enter Try.func63, Try.ntmps63
          go_wp2_with fail
          refine (C1.out _ HL.out).mono ?_
          rintro e w1 ⟨rfl, b1⟩
          go_wp2_with fail
          refine (C2.out _ (HM.out.below b1)).mono ?_
          rintro e w2 ⟨rfl, b2⟩
          obtain ⟨g1, o1, hA1, k1, -, c1, -⟩ := ((HL.out.below b1).below b2).at HX.out
          obtain ⟨g2, o2, hA2, k2, -, c2, -⟩ := ((HM.out.below b1).below b2).at HY.out
          subst hA1 hA2
          rw [Nat.zero_mul] at c1 c2
          have s1 : ∀ z : Since w2, z.1.cell? ⟨g1, o1 + 1, none⟩ = some (.int .i64 x.d) := fun z => (z.2.cell k1).trans c1
          have s2 : ∀ z : Since w2, z.1.cell? ⟨g2, o2 + 1, none⟩ = some (.int .i64 y.d) := fun z => (z.2.cell k2).trans c2
          clear c1 c2
          go_wp2_with fail
          refine region_since w2 (by kernel_rfl) (by kernel_rfl) (Below.refl _ _) ?_
          repeat (go_big_quiet_step (fail))
          refine wpQuiet_nil ?_
          rintro w4 ⟨z, hw⟩
          have B2 : Below w1.heap.size w1 w4 := b2.trans ((hw ▸ z.2 : Below w2.heap.size w2 w4).mono b2.size)
          clear hw z
          clear s1 s2
          go_wp2_with fail
          go_ret
          exact ⟨rfl, b1.trans (B2.mono b1.size)⟩
    · rw [both_second h1 h2]
      rw [h1] at C1
      clear h1
      generalize checkE M iM = v at C2 h2 ⊢
      have hv0 : (v == 0) = false := by simpa using h2
      go_enter Try.func63, Try.ntmps63
      go_wp2_with fail
      refine (C1.out _ HL.out).mono ?_
      rintro e w1 ⟨rfl, b1⟩
      go_wp2_with fail
      refine (C2.out _ (HM.out.below b1)).mono ?_
      rintro e w2 ⟨rfl, b2⟩
      have B2 := b2
      go_wp2_with fail
      go_ret
      exact ⟨rfl, b1.trans (B2.mono b1.size)⟩
  · rw [both_first h1]
    generalize checkE L iL = v at C1 h1 ⊢
    have hv0 : (v == 0) = false := by simpa using h1
    go_enter Try.func63, Try.ntmps63
    go_wp2_with fail
    refine (C1.out _ HL.out).mono ?_
    rintro e w1 ⟨rfl, b1⟩
    have B1 := b1
    go_wp2_with fail
    go_ret
    exact ⟨rfl, B1⟩
set_option maxRecDepth 100000 in
theorem bothR_any (A B : Option Addr) (c d : Nat) (L M : List Tm) (iL : InL L) (iM : InL M) (mL : L.length ≤ 4611686018427387903) (mM : M.length ≤ 4611686018427387903) (w : World) (hL : Lt w A L) (hM : Lt w B M) :
    Calls Try.prog 65 #[.slice A L.length c, .slice B M.length d] w fun e W' => e = .returned (.int .i64 (bothE L M iL iM)) ∧ Below w.heap.size w W' := by
  have HL := Lib.hid hL
  have HM := Lib.hid hM
  have C1 := Lib.hid (checkR_any A c L iL mL)
  have C2 := Lib.hid (checkR_any B d M iM mM)
  clear hL hM
  by_cases h1 : checkE L iL = 0
  · by_cases h2 : checkE M iM = 0
    · by_cases n : L = [] ∨ M = []
      · rw [both_none h1 h2 n]
        rw [h1] at C1
        rw [h2] at C2
        clear h1 h2
        by_cases nL : L = []
        · subst nL
          clear n
          go_enter Try.func65, Try.ntmps65
          go_wp2_with fail
          refine (C1.out _ HL.out).mono ?_
          rintro e w1 ⟨rfl, b1⟩
          go_wp2_with fail
          refine (C2.out _ (HM.out.below b1)).mono ?_
          rintro e w2 ⟨rfl, b2⟩
          go_wp2_with fail
          refine region_since w2 (by kernel_rfl) (by kernel_rfl) (Below.refl _ _) ?_
          repeat (go_big_quiet_step (fail))
          refine wpQuiet_nil ?_
          rintro w4 ⟨z, hw⟩
          have B2 : Below w1.heap.size w1 w4 := b2.trans ((hw ▸ z.2 : Below w2.heap.size w2 w4).mono b2.size)
          clear hw z
          go_wp2_with fail
          go_ret
          exact ⟨rfl, b1.trans (B2.mono b1.size)⟩
        · have nM : M = [] := n.resolve_left nL
          subst nM
          obtain ⟨x, r, rfl⟩ : ∃ x r, L = x :: r := by cases L with | nil => exact absurd rfl nL | cons x r => exact ⟨x, r, rfl⟩
          have hpos : 0 < (x :: r).length := by simp
          have hq := decide_eq_true hpos
          generalize x :: r = L at hpos hq HL C1 mL
          clear n nL
          go_enter Try.func65, Try.ntmps65
          go_wp2_with fail
          refine (C1.out _ HL.out).mono ?_
          rintro e w1 ⟨rfl, b1⟩
          go_wp2_with fail
          refine (C2.out _ (HM.out.below b1)).mono ?_
          rintro e w2 ⟨rfl, b2⟩
          go_wp2_with fail
          refine region_since w2 (by kernel_rfl) (by kernel_rfl) (Below.refl _ _) ?_
          repeat (go_big_quiet_step (fail))
          refine wpQuiet_nil ?_
          rintro w4 ⟨z, hw⟩
          have B2 : Below w1.heap.size w1 w4 := b2.trans ((hw ▸ z.2 : Below w2.heap.size w2 w4).mono b2.size)
          clear hw z
          go_wp2_with fail
          go_ret
          exact ⟨rfl, b1.trans (B2.mono b1.size)⟩
      · obtain ⟨x, hx, -⟩ := get_lt (L := L) (k := 0) (by cases L with | nil => exact absurd (.inl rfl) n | cons x r => simp)
        obtain ⟨y, hy, -⟩ := get_lt (L := M) (k := 0) (by cases M with | nil => exact absurd (.inr rfl) n | cons x r => simp)
        rw [both_deep h1 h2 hx hy]
        rw [h1] at C1
        rw [h2] at C2
        have hp1 : 0 < L.length := (List.getElem?_eq_some_iff.1 hx).1
        have hq1 := decide_eq_true hp1
        have hp2 : 0 < M.length := (List.getElem?_eq_some_iff.1 hy).1
        have hq2 := decide_eq_true hp2
        have HX := Lib.hid hx
        have HY := Lib.hid hy
        obtain ⟨v, hv⟩ : ∃ v : Int, (if x.d = y.d then (0 : Int) else 10) = v := ⟨_, rfl⟩
        rw [hv]
        have HV := Lib.hid hv
        clear h1 h2 n hx hy hv
        by_cases hd : x.d = y.d
        · skip
          obtain rfl : (0 : Int) = v := by have := HV.out; rwa [if_pos hd] at this
          clear HV
          go_enter Try.func65, Try.ntmps65
          go_wp2_with fail
          refine (C1.out _ HL.out).mono ?_
          rintro e w1 ⟨rfl, b1⟩
          go_wp2_with fail
          refine (C2.out _ (HM.out.below b1)).mono ?_
          rintro e w2 ⟨rfl, b2⟩
          obtain ⟨g1, o1, hA1, k1, -, c1, -⟩ := ((HL.out.below b1).below b2).at HX.out
          obtain ⟨g2, o2, hA2, k2, -, c2, -⟩ := ((HM.out.below b1).below b2).at HY.out
          subst hA1 hA2
          rw [Nat.zero_mul] at c1 c2
          have s1 : ∀ z : Since w2, z.1.cell? ⟨g1, o1 + 1, none⟩ = some (.int .i64 x.d) := fun z => (z.2.cell k1).trans c1
          have s2 : ∀ z : Since w2, z.1.cell? ⟨g2, o2 + 1, none⟩ = some (.int .i64 y.d) := fun z => (z.2.cell k2).trans c2
          clear c1 c2
          go_wp2_with fail
          refine region_since w2 (by kernel_rfl) (by kernel_rfl) (Below.refl _ _) ?_
          repeat (go_big_quiet_step (fail))
          refine wpQuiet_nil ?_
          rintro w4 ⟨z, hw⟩
          have B2 : Below w1.heap.size w1 w4 := b2.trans ((hw ▸ z.2 : Below w2.heap.size w2 w4).mono b2.size)
          clear hw z
          clear s1 s2
          go_wp2_with fail
          go_ret
          exact ⟨rfl, b1.trans (B2.mono b1.size)⟩
        · skip
          obtain rfl : (10 : Int) = v := by have := HV.out; rwa [if_neg hd] at this
          clear HV
          go_enter Try.func65, Try.ntmps65
          go_wp2_with fail
          refine (C1.out _ HL.out).mono ?_
          rintro e w1 ⟨rfl, b1⟩
          go_wp2_with fail
          refine (C2.out _ (HM.out.below b1)).mono ?_
          rintro e w2 ⟨rfl, b2⟩
          obtain ⟨g1, o1, hA1, k1, -, c1, -⟩ := ((HL.out.below b1).below b2).at HX.out
          obtain ⟨g2, o2, hA2, k2, -, c2, -⟩ := ((HM.out.below b1).below b2).at HY.out
          subst hA1 hA2
          rw [Nat.zero_mul] at c1 c2
          have s1 : ∀ z : Since w2, z.1.cell? ⟨g1, o1 + 1, none⟩ = some (.int .i64 x.d) := fun z => (z.2.cell k1).trans c1
          have s2 : ∀ z : Since w2, z.1.cell? ⟨g2, o2 + 1, none⟩ = some (.int .i64 y.d) := fun z => (z.2.cell k2).trans c2
          clear c1 c2
          go_wp2_with fail
          refine region_since w2 (by kernel_rfl) (by kernel_rfl) (Below.refl _ _) ?_
          repeat (go_big_quiet_step (fail))
          refine wpQuiet_nil ?_
          rintro w4 ⟨z, hw⟩
          have B2 : Below w1.heap.size w1 w4 := b2.trans ((hw ▸ z.2 : Below w2.heap.size w2 w4).mono b2.size)
          clear hw z
          clear s1 s2
          go_wp2_with fail
          go_ret
          exact ⟨rfl, b1.trans (B2.mono b1.size)⟩
    · rw [both_second h1 h2]
      rw [h1] at C1
      clear h1
      generalize checkE M iM = v at C2 h2 ⊢
      have hv0 : (v == 0) = false := by simpa using h2
      go_enter Try.func65, Try.ntmps65
      go_wp2_with fail
      refine (C1.out _ HL.out).mono ?_
      rintro e w1 ⟨rfl, b1⟩
      go_wp2_with fail
      refine (C2.out _ (HM.out.below b1)).mono ?_
      rintro e w2 ⟨rfl, b2⟩
      go_wp2_with fail
      refine region_since w2 (by kernel_rfl) (by kernel_rfl) (Below.refl _ _) ?_
      repeat (go_big_quiet_step (fail))
      refine wpQuiet_nil ?_
      rintro w4 ⟨z, hw⟩
      have B2 : Below w1.heap.size w1 w4 := b2.trans ((hw ▸ z.2 : Below w2.heap.size w2 w4).mono b2.size)
      clear hw z
      go_wp2_with fail
      go_ret
      exact ⟨rfl, b1.trans (B2.mono b1.size)⟩
  · rw [both_first h1]
    generalize checkE L iL = v at C1 h1 ⊢
    have hv0 : (v == 0) = false := by simpa using h1
    go_enter Try.func65, Try.ntmps65
    go_wp2_with fail
    refine (C1.out _ HL.out).mono ?_
    rintro e w1 ⟨rfl, b1⟩
    go_wp2_with fail
    refine region_since w1 (by kernel_rfl) (by kernel_rfl) (Below.refl _ _) ?_
    repeat (go_big_quiet_step (fail))
    refine wpQuiet_nil ?_
    rintro w4 ⟨z, hw⟩
    have B1 : Below w.heap.size w w4 := b1.trans ((hw ▸ z.2 : Below w1.heap.size w1 w4).mono b1.size)
    clear hw z
    go_wp2_with fail
    go_ret
    exact ⟨rfl, B1⟩
end Go.Proofs.Ytmepiogoofmbbaa.chain
