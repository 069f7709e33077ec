/-
  The contract of watershedlaw06.own.
  One append for all: times behind a row of one's own, whatever they are; slices.Grow of nothing; slices.Concat of two.
  The contract of slices.Concat of two slices of times.
  The contracts of chain.checkBoth and watershedref06.both.
  The contracts of chain.Meet and watershedref06.Meet.
-/
import Derived.Test.YtmepiogoofmbbaaDoorGF
import Derived.WalkMore
import Derived.Lib.AppendZeros
import Derived.Laws.AppendOwnNone
import Derived.Test.YtmepiogoofmbbaaDoorGI
namespace Go.Proofs.YtmepiogoofmbbaaDoor.chain
open Go.ChangeShapes Go.WideShapes Go.ChangeAt Go.RowKit
open Go.Proofs.YtmepiogoofmbbaaDoor.tm Go.Proofs.YtmepiogoofmbbaaDoor.opened Go.Proofs.YtmepiogoofmbbaaDoor.block Go.Proofs.YtmepiogoofmbbaaDoor.stamp

theorem lt_flat {w : World} {L : List Tm} {b off : Nat} (h : Lt w (some ⟨b, off, none⟩) L) : ∀ j u, (L.flatMap cT)[j]? = some u → w.cell? ((⟨b, off, none⟩ : Addr).add j) = some u := by
  intro j u hj
  have hlt : j < L.length * 5 := by rw [← flat_len]; exact (List.getElem?_eq_some_iff.1 hj).1
  obtain ⟨y, hy, -⟩ := get_lt (L := L) (k := j / 5) (by omega)
  have e := flat_at L (j / 5) y (j % 5) hy (Nat.mod_lt _ (by omega))
  rw [show j / 5 * 5 + j % 5 = j by omega, hj] at e
  rcases h with h | ⟨b', o', hA, -, hc⟩
  · have : L = [] := by simpa using h
    subst this
    simp at hy
  · injection (Option.some.inj hA) with e1 e2
    subst e1 e2
    have := (hc (j / 5) (cT y) (by rw [List.getElem?_map, hy]; rfl)).2 (j % 5) (Nat.mod_lt _ (by omega))
    rw [show j / 5 * 5 + j % 5 = j by omega, ← e] at this
    rw [show (⟨b, off, none⟩ : Addr).add j = ⟨b, off + j, none⟩ by cases j <;> simp [Addr.add]]
    exact this
theorem own0 (W : World) : OwnT (W.alloc (.cells #[] 26)) W.heap.size (.slice (some ⟨W.heap.size, 0, none⟩) 0 0) [] := ⟨rfl, .inr ⟨W.heap.size, 0, #[], rfl, Nat.le_refl _, heap_new W _, Nat.le_refl _, by simp [maxLen], rfl, rfl⟩⟩
theorem OwnT.same {w : World} {base : Nat} {v : Value} {N M : List Tm} (h : OwnT w base v N) (e : N = M) : OwnT w base v M := e ▸ h
set_option maxRecDepth 100000 in
theorem own_any (A : Option Addr) (c : Nat) (L : List Tm) (mL : L.length ≤ 4096) (w : World) (hL : Lt w A L) :
    Calls Tryd.prog 10 #[.slice A L.length c] w fun e W' => ∃ B c', e = .returned (.slice B L.length c') ∧ OwnT W' w.heap.size (.slice B L.length c') L ∧ Below w.heap.size w W' := by
  obtain ⟨i0, hi0, hz0, hz1, hz2⟩ := info_parts infoT
  cases L with
  | nil =>
    clear hL
    cases A with
    | none =>
      go_enter Tryd.func10, Tryd.ntmps10
      go_wp2_with fail
      go_ret
      exact ⟨_, _, rfl, own0 w, fresh1 _ _⟩
    | some ad =>
      have HO := Lib.hid (own0 w)
      go_enter Tryd.func10, Tryd.ntmps10
      go_wp2_with (at_builtin; refine wpList_append_own _ rfl _ _ 22 rfl w.heap.size 26 i0 (.agg #[.int .u32 T0.e, .int .i64 T0.d, .int .u32 T0.a, .int .u32 T0.b, .int .u32 T0.c]) 5 32 Tryd.underlying22 hi0 hz0 hz1 hz2 rfl (by decide) _ 0 [] rfl HO.out ad 0 _ [] rfl (by simp) (by intro j u hj; simp at hj) (by simp) (by simp [maxLen]) (by omega) (by simp) ?_; intro v' w5 hown' hgrow _; have b5 := Lib.hid (((Below.refl w.heap.size w).alloc (Nat.le_refl _) (.cells #[] 26)).grown hgrow (by simp) (fun j ej => by cases ej; exact Nat.le_refl _)); have HO5 : Hid (OwnT w5 w.heap.size v' []) := Lib.hid (by unfold OwnT; simpa using hown'); obtain ⟨B4, c4, hv5⟩ := HO5.out.shape; subst hv5; clear hown' hgrow)
      go_ret
      exact ⟨_, _, rfl, HO5.out, b5.out⟩
  | cons x r =>
    obtain ⟨b, off, rfl, hb, -⟩ := hL.at (k := 0) (t := x) rfl
    have HC := Lib.hid (lt_flat (hL.below (fresh1 w (.cells #[] 26))))
    have HO := Lib.hid (own0 w)
    generalize x :: r = L at mL HC hL
    clear hL
    go_enter Tryd.func10, Tryd.ntmps10
    go_wp2_with (at_builtin; refine wpList_append_own _ rfl _ _ 22 rfl w.heap.size 26 i0 (.agg #[.int .u32 T0.e, .int .i64 T0.d, .int .u32 T0.a, .int .u32 T0.b, .int .u32 T0.c]) 5 32 Tryd.underlying22 hi0 hz0 hz1 hz2 rfl (by decide) _ 0 [] rfl HO.out ⟨b, off, none⟩ L.length _ (L.flatMap cT) rfl (by rw [flat_len]) HC.out (one_flat _) (by simp [maxLen]; omega) (by omega) (by simp) ?_; intro v' w5 hown' hgrow _; have b5 := Lib.hid (((Below.refl w.heap.size w).alloc (Nat.le_refl _) (.cells #[] 26)).grown hgrow (by simp) (fun j ej => by cases ej; exact Nat.le_refl _)); have HO5 : Hid (OwnT w5 w.heap.size v' L) := Lib.hid (by unfold OwnT; simpa using hown'); obtain ⟨B4, c4, hv5⟩ := HO5.out.shape; subst hv5; clear hown' hgrow)
    go_ret
    exact ⟨_, _, rfl, HO5.out, b5.out⟩
end Go.Proofs.YtmepiogoofmbbaaDoor.chain
namespace Go.Proofs.YtmepiogoofmbbaaDoor.chain
open Go.ChangeShapes Go.WideShapes Go.ChangeAt Go.RowKit
open Go.Proofs.YtmepiogoofmbbaaDoor.tm Go.Proofs.YtmepiogoofmbbaaDoor.opened Go.Proofs.YtmepiogoofmbbaaDoor.block Go.Proofs.YtmepiogoofmbbaaDoor.stamp

theorem run_app_none {P : Program} {w : World} (base : Nat) (t ty e : TypeId) (i : TypeInfo) (size : Nat) (ht : P.underlying t = some (.slice e)) (hi : P.info? e = some i)
    (v : Value) (n c : Nat) (xs : List Value) (hown : w.ownsRow base e size v n xs) :
    (Builtin.append_ #[t, t] ty #[v, .slice none 0 c]).run P w = .ok v w := by
  rcases hown.2 with ⟨rfl, rfl⟩ | ⟨g, cap, cur, rfl, _, _, hnc, _⟩
  · simp [Builtin.append_, run_underlying ht, sizeOf, typeInfo, hi, Builtin.lenOf, Builtin.firstCells]
  · simp [Builtin.append_, run_underlying ht, sizeOf, typeInfo, hi, Builtin.lenOf, Builtin.firstCells, hnc, storeCells]
theorem wp_app_none {P : Program} {w : World} {ops : Array Oper} {rest : List Oper} {o : Oper} {a : Act} {Q : Exit → Act → World → Prop} (hgd : o.guard = none) (s x : Operand) (t : TypeId)
    (ho : o.op = .call { callee := .builtin .append, args := #[s, x], argTypes := #[t, t] })
    (base : Nat) (e : TypeId) (i : TypeInfo) (size : Nat) (ht : P.underlying t = some (.slice e)) (hi : P.info? e = some i)
    (v : Value) (n c : Nat) (xs : List Value) (hs : a.eval s = v) (hown : w.ownsRow base e size v n xs) (hx : a.eval x = .slice none 0 c)
    (h : wpList P ops Q rest (a.put o.dst v) w) : wpList P ops Q (o :: rest) a w := by
  refine wpList_plain hgd fun K hK => ?_
  have hrun := run_app_none (P := P) (w := w) base t o.type e i size ht hi v n c xs hown
  unfold Oper.wp
  simp [execOp, ho, resolve, invoke, builtin, hs, hx, hrun, Result.andThen]
  exact hK _ _ h
/-- Times appended to a row of one's own. -/
theorem wp_app {w : World} {ops : Array Oper} {rest : List Oper} {o : Oper} {a : Act} {Q : Exit → Act → World → Prop} (hgd : o.guard = none) (s x : Operand)
    (ho : o.op = .call { callee := .builtin .append, args := #[s, x], argTypes := #[22, 22] })
    (base : Nat) (v : Value) (N : List Tm) (hs : a.eval s = v) (hown : OwnT w base v N) (A : Option Addr) (n c : Nat) (M : List Tm) (hx : a.eval x = .slice A n c) (hn : n = M.length) (hM : Lt w A M)
    (h1 : N.length + M.length ≤ 8192) (hbase : base ≤ w.heap.size)
    (h : ∀ B c' w', OwnT w' base (.slice B (N ++ M).length c') (N ++ M) → Below base w w' → wpList Tryd.prog ops Q rest (a.put o.dst (.slice B (N ++ M).length c')) w') : wpList Tryd.prog ops Q (o :: rest) a w := by
  obtain ⟨i0, hi0, hz0, hz1, hz2⟩ := info_parts infoT
  subst hn
  have key : ∀ ad, A = some ad → (∀ j u, (M.flatMap cT)[j]? = some u → w.cell? (ad.add j) = some u) → wpList Tryd.prog ops Q (o :: rest) a w := by
    intro ad hA hc
    subst hA
    refine wpList_append_own _ hgd s x 22 ho base 26 i0 (.agg #[.int .u32 T0.e, .int .i64 T0.d, .int .u32 T0.a, .int .u32 T0.b, .int .u32 T0.c]) 5 32 Tryd.underlying22 hi0 hz0 hz1 hz2 rfl (by decide) v N.length (N.flatMap cT) hs hown ad M.length c (M.flatMap cT) hx (by rw [flat_len]) hc (one_flat _) (by simp [maxLen]; omega) (by omega) hbase ?_
    intro v' w' hown' hg _
    have ho2 : OwnT w' base v' (N ++ M) := by unfold OwnT; rw [List.length_append, List.flatMap_append]; exact hown'
    obtain ⟨B, c', hv⟩ := ho2.shape
    subst hv
    exact h B c' w' ho2 (hown.grown0 hbase hg)
  cases M with
  | nil =>
    cases A with
    | none =>
      refine wp_app_none hgd s x 22 ho base 26 i0 5 Tryd.underlying22 hi0 v N.length c (N.flatMap cT) hs hown hx ?_
      obtain ⟨B, c', hv⟩ := hown.shape
      subst hv
      have := h B c' w (by rw [List.append_nil]; exact hown) (Below.refl _ _)
      rwa [List.append_nil] at this
    | some ad => exact key ad rfl (by intro j u hj; simp at hj)
  | cons y r =>
    obtain ⟨b, off, rfl, hb, -⟩ := hM.at (k := 0) (t := y) rfl
    exact key _ rfl (lt_flat hM)
theorem grow_none (w : World) : Calls Tryd.prog 57 #[.slice none 0 0, .int .i64 (0 : Nat)] w fun e W' => ∃ B c', e = .returned (.slice B 0 c') ∧ OwnT W' w.heap.size (.slice B 0 c') [] ∧ Below w.heap.size w W' := by
  go_enter Tryd.func57, Tryd.ntmps57
  go_wp2
  go_ret
  exact ⟨none, 0, rfl, World.ownsRow_nil _ _ _ _, Below.refl _ _⟩
set_option maxRecDepth 100000 in
theorem grow_any (n : Nat) (hn : n ≤ 8192) (w : World) : Calls Tryd.prog 57 #[.slice none 0 0, .int .i64 n] w fun e W' => ∃ B c', e = .returned (.slice B 0 c') ∧ OwnT W' w.heap.size (.slice B 0 c') [] ∧ Below w.heap.size w W' := by
  obtain ⟨i0, hi0, hz0, hz1, hz2⟩ := info_parts infoT
  cases n with
  | zero => exact grow_none w
  | succ n =>
    generalize hm : n + 1 = m at hn ⊢
    have hm0 : 0 < m := by omega
    have hm1 : (0 : Int) < (m : Int) := by omega
    have hm2 : ¬ (m : Int) < 0 := by omega
    have hw1 : IntKind.i64.wrap ((m : Int) - 0) = m := by rw [IntKind.wrap_i64]; omega
    have hr := Lib.run_append_nil_zeros (P := Tryd.prog) w 22 3 22 26 i0 (.agg #[.int .u32 T0.e, .int .i64 T0.d, .int .u32 T0.a, .int .u32 T0.b, .int .u32 T0.c]) .i64 .i64 Tryd.underlying22 Tryd.underlying3 hi0 hz0 m hm0 (by omega) (by omega) (by rw [hz2]; omega)
    have HO : ∀ (G : Nat), grownCap w m 0 26 = G → Hid (OwnT (w.drew.alloc (.cells (Builtin.zeroCells (.agg #[.int .u32 T0.e, .int .i64 T0.d, .int .u32 T0.a, .int .u32 T0.b, .int .u32 T0.c] : Value).cells m ++ Builtin.zeroCells (.agg #[.int .u32 T0.e, .int .i64 T0.d, .int .u32 T0.a, .int .u32 T0.b, .int .u32 T0.c] : Value).cells (G - m)) 26)) w.heap.size (.slice (some ⟨w.heap.size, 0, none⟩) 0 G) []) := by
      intro G hG
      have g1 := grownCap_ge w m 0 26
      have g2 := grownCap_le_maxLen w m 0 26 (by simp [maxLen]; omega)
      rw [hG] at g1 g2
      refine Lib.hid ⟨rfl, .inr ⟨w.heap.size, G, _, rfl, Nat.le_refl _, heap_new w.drew _, Nat.zero_le _, g2, ?_, rfl⟩⟩
      rw [Array.size_append, size_zeroCells, size_zeroCells]
      show m * 5 + (G - m) * 5 = G * 5
      omega
    obtain ⟨G, hG⟩ : ∃ G, grownCap w m 0 26 = G := ⟨_, rfl⟩
    have HO := HO G hG
    rw [hG] at hr
    have hr := Lib.hid hr
    have hb : Below w.heap.size w (w.drew.alloc (.cells (Builtin.zeroCells (.agg #[.int .u32 T0.e, .int .i64 T0.d, .int .u32 T0.a, .int .u32 T0.b, .int .u32 T0.c] : Value).cells m ++ Builtin.zeroCells (.agg #[.int .u32 T0.e, .int .i64 T0.d, .int .u32 T0.a, .int .u32 T0.b, .int .u32 T0.c] : Value).cells (G - m)) 26)) := ((Below.refl _ w).drew).alloc (Nat.le_refl _) _
    have hb := Lib.hid hb
    clear hG
    generalize w.drew.alloc (.cells (Builtin.zeroCells (.agg #[.int .u32 T0.e, .int .i64 T0.d, .int .u32 T0.a, .int .u32 T0.b, .int .u32 T0.c] : Value).cells m ++ Builtin.zeroCells (.agg #[.int .u32 T0.e, .int .i64 T0.d, .int .u32 T0.a, .int .u32 T0.b, .int .u32 T0.c] : Value).cells (G - m)) 26) = W at hr HO hb
    go_enter Tryd.func57, Tryd.ntmps57
    go_wp2_with (at_builtin; refine Lib.wpList_append_run _ rfl _ _ _ _ rfl _ _ rfl rfl _ _ hr.out ?_)
    go_ret
    exact ⟨_, _, rfl, HO.out, hb.out⟩
end Go.Proofs.YtmepiogoofmbbaaDoor.chain
namespace Go.Proofs.YtmepiogoofmbbaaDoor.chain
open Go.ChangeShapes Go.WideShapes Go.ChangeAt Go.RowKit
open Go.Proofs.YtmepiogoofmbbaaDoor.tm Go.Proofs.YtmepiogoofmbbaaDoor.opened Go.Proofs.YtmepiogoofmbbaaDoor.block Go.Proofs.YtmepiogoofmbbaaDoor.stamp

set_option maxRecDepth 100000 in
set_option maxHeartbeats 1000000 in
theorem concat_any (g : Nat) (A B : Option Addr) (c d : Nat) (L M : List Tm) (mL : L.length ≤ 4096) (mM : M.length ≤ 4096) (w : World) (hL : Lt w A L) (hM : Lt w B M) (O : Whole w g 22 #[.slice A L.length c, .slice B M.length d]) :
    Calls Tryd.prog 36 #[.slice (some ⟨g, 0, none⟩) 2 2] w fun e W' => ∃ D c', e = .returned (.slice D (L ++ M).length c') ∧ OwnT W' w.heap.size (.slice D (L ++ M).length c') (L ++ M) ∧ Below w.heap.size w W' := by
  have HL := Lib.hid hL
  have HM := Lib.hid hM
  have GR := grow_any (L.length + M.length) (by omega)
  rw [Int.natCast_add] at GR
  have GR := Lib.hid GR
  have hw1 : IntKind.i64.wrap (0 + (L.length : Int)) = L.length := by rw [IntKind.wrap_i64]; omega
  have hw2 : IntKind.i64.wrap ((L.length : Int) + M.length) = (L.length : Int) + M.length := by rw [IntKind.wrap_i64]; omega
  have hn1 : ¬ (L.length : Int) < 0 := by omega
  have hn2 : ¬ (L.length : Int) + M.length < 0 := by omega
  have hg := O.inside
  have OH := Lib.hid O
  obtain ⟨oc, of⟩ := path.all_of O
  clear hL hM O
  go_enter Tryd.func36, Tryd.ntmps36
  go_wp2_with fail
  refine wp_loop_rounds 3 ?_
  rw [rounds_succ]
  go_wp2_with fail
  rw [rounds_succ]
  go_wp2_with fail
  rw [rounds_succ]
  go_wp2_with fail
  refine (GR.out _).mono ?_
  rintro e w1 ⟨D, c1, rfl, h1, b1⟩
  have H1 := Lib.hid h1
  have OH1 := Lib.hid (OH.out.below b1 hg)
  have HL1 := Lib.hid (HL.out.below b1)
  have HM1 := Lib.hid (HM.out.below b1)
  have hs1 := b1.size
  have hg1 : g < w1.heap.size := OH1.out.inside
  obtain ⟨oc, of⟩ := path.all_of OH1.out
  clear h1 GR
  go_wp2_with fail
  refine wp_loop_rounds 3 ?_
  rw [rounds_succ]
  go_wp2_with (at_builtin; refine wp_app rfl _ _ rfl w.heap.size _ [] rfl H1.out A _ c L rfl rfl HL1.out (by simp; omega) hs1 ?_; intro B1 c2 w2 h2 b2; have H2 := Lib.hid h2; have B2 := b1.trans b2; clear h2)
  have hg2 := Nat.lt_of_lt_of_le hg B2.size
  have HM2 := Lib.hid (HM.out.below B2)
  obtain ⟨oc, of⟩ := path.all_of (OH.out.below B2 hg)
  clear H1 b1 b2
  rw [rounds_succ]
  go_wp2_with (at_builtin; refine wp_app rfl _ _ rfl w.heap.size _ ([] ++ L) rfl H2.out B _ d M rfl rfl HM2.out (by simp; omega) B2.size ?_; intro D3 c3 w3 h3 b3; have H3 := Lib.hid h3; have B3 := B2.trans b3; clear h3)
  rw [rounds_succ]
  go_wp2_with fail
  go_ret
  exact ⟨D3, c3, by rw [List.length_append]; rfl, H3.out, B3⟩
end Go.Proofs.YtmepiogoofmbbaaDoor.chain
namespace Go.Proofs.YtmepiogoofmbbaaDoor.chain
open Go.ChangeShapes Go.WideShapes Go.ChangeAt Go.RowKit Go.Shelf Go.Sort
open Go.Proofs.YtmepiogoofmbbaaDoor.tm Go.Proofs.YtmepiogoofmbbaaDoor.opened Go.Proofs.YtmepiogoofmbbaaDoor.block Go.Proofs.YtmepiogoofmbbaaDoor.stamp

theorem both_first {A B : List Tm} {iA : InL A} {iB : InL B} (h : checkE A iA ≠ 0) : bothE A B iA iB = checkE A iA := by unfold bothE; rw [if_pos h]
theorem both_second {A B : List Tm} {iA : InL A} {iB : InL B} (h : checkE A iA = 0) (k : checkE B iB ≠ 0) : bothE A B iA iB = checkE B iB := by
  unfold bothE; rw [if_neg (fun q => q h), if_pos k]
theorem both_none {A B : List Tm} {iA : InL A} {iB : InL B} (h : checkE A iA = 0) (k : checkE B iB = 0) (n : A = [] ∨ B = []) : bothE A B iA iB = 0 := by
  unfold bothE
  rw [if_neg (fun q => q h), if_neg (fun q => q k), if_neg]
  rintro ⟨u, v, -⟩
  exact n.elim u v
theorem both_deep {A B : List Tm} {iA : InL A} {iB : InL B} {x y : Tm} (h : checkE A iA = 0) (k : checkE B iB = 0) (hx : A[0]? = some x) (hy : B[0]? = some y) : bothE A B iA iB = if x.d = y.d then 0 else 10 := by
  unfold bothE
  rw [if_neg (fun q => q h), if_neg (fun q => q k), head_of hx, head_of hy]
  have u : A ≠ [] := by rintro rfl; simp at hx
  have v : B ≠ [] := by rintro rfl; simp at hy
  by_cases e : x.d = y.d
  · rw [if_pos e, if_neg (fun q => q.2.2 e)]
  · rw [if_neg e, if_pos ⟨u, v, e⟩]
set_option maxRecDepth 100000 in
theorem checkBoth_any (A B : Option Addr) (c d : Nat) (L M : List Tm) (iL : InL L) (iM : InL M) (mL : L.length ≤ 4611686018427387903) (mM : M.length ≤ 4611686018427387903) (w : World) (hL : Lt w A L) (hM : Lt w B M) :
    Calls Tryd.prog 35 #[.slice A L.length c, .slice B M.length d] w fun e W' => e = .returned (.int .i64 (bothE L M iL iM)) ∧ Below w.heap.size w W' := by
  have HL := Lib.hid hL
  have HM := Lib.hid hM
  have C1 := Lib.hid (check_chain A c L iL mL)
  have C2 := Lib.hid (check_chain B d M iM mM)
  clear hL hM
  by_cases h1 : checkE L iL = 0
  · by_cases h2 : checkE M iM = 0
    · by_cases n : L = [] ∨ M = []
      · rw [both_none h1 h2 n]
        rw [h1] at C1
        rw [h2] at C2
        clear h1 h2
        by_cases nL : L = []
        · subst nL
          clear n
          go_enter Tryd.func35, Tryd.ntmps35
          go_wp2_with fail
          refine (C1.out _ HL.out).mono ?_
          rintro e w1 ⟨rfl, b1⟩
          go_wp2_with fail
          refine (C2.out _ (HM.out.below b1)).mono ?_
          rintro e w2 ⟨rfl, b2⟩
          go_wp2_with fail
          refine region_since w2 (by kernel_rfl) (by kernel_rfl) (Below.refl _ _) ?_
          repeat (go_big_quiet_step (fail))
          refine wpQuiet_nil ?_
          rintro w4 ⟨z, hw⟩
          have B2 : Below w1.heap.size w1 w4 := b2.trans ((hw ▸ z.2 : Below w2.heap.size w2 w4).mono b2.size)
          clear hw z
          go_wp2_with fail
          go_ret
          exact ⟨rfl, b1.trans (B2.mono b1.size)⟩
        · have nM : M = [] := n.resolve_left nL
          subst nM
          obtain ⟨x, r, rfl⟩ : ∃ x r, L = x :: r := by cases L with | nil => exact absurd rfl nL | cons x r => exact ⟨x, r, rfl⟩
          have hpos : 0 < (x :: r).length := by simp
          have hq := decide_eq_true hpos
          generalize x :: r = L at hpos hq HL C1 mL
          clear n nL
          go_enter Tryd.func35, Tryd.ntmps35
          go_wp2_with fail
          refine (C1.out _ HL.out).mono ?_
          rintro e w1 ⟨rfl, b1⟩
          go_wp2_with fail
          refine (C2.out _ (HM.out.below b1)).mono ?_
          rintro e w2 ⟨rfl, b2⟩
          go_wp2_with fail
          refine region_since w2 (by kernel_rfl) (by kernel_rfl) (Below.refl _ _) ?_
          repeat (go_big_quiet_step (fail))
          refine wpQuiet_nil ?_
          rintro w4 ⟨z, hw⟩
          have B2 : Below w1.heap.size w1 w4 := b2.trans ((hw ▸ z.2 : Below w2.heap.size w2 w4).mono b2.size)
          clear hw z
          go_wp2_with fail
          go_ret
          exact ⟨rfl, b1.trans (B2.mono b1.size)⟩
      · obtain ⟨x, hx, -⟩ := get_lt (L := L) (k := 0) (by cases L with | nil => exact absurd (.inl rfl) n | cons x r => simp)
        obtain ⟨y, hy, -⟩ := get_lt (L := M) (k := 0) (by cases M with | nil => exact absurd (.inr rfl) n | cons x r => simp)
        rw [both_deep h1 h2 hx hy]
        rw [h1] at C1
        rw [h2] at C2
        have hp1 : 0 < L.length := (List.getElem?_eq_some_iff.1 hx).1
        have hq1 := decide_eq_true hp1
        have hp2 : 0 < M.length := (List.getElem?_eq_some_iff.1 hy).1
        have hq2 := decide_eq_true hp2
        have HX := Lib.hid hx
        have HY := Lib.hid hy
        obtain ⟨v, hv⟩ : ∃ v : Int, (if x.d = y.d then (0 : Int) else 10) = v := ⟨_, rfl⟩
        rw [hv]
        have HV := Lib.hid hv
        clear h1 h2 n hx hy hv
        by_cases hd : x.d = y.d
        · skip
          obtain rfl : (0 : Int) = v := by have := HV.out; rwa [if_pos hd] at this
          clear HV
          go_enter Tryd.func35, Tryd.ntmps35
          go_wp2_with fail
          refine (C1.out _ HL.out).mono ?_
          rintro e w1 ⟨rfl, b1⟩
          go_wp2_with fail
          refine (C2.out _ (HM.out.below b1)).mono ?_
          rintro e w2 ⟨rfl, b2⟩
          obtain ⟨g1, o1, hA1, k1, -, c1, -⟩ := ((HL.out.below b1).below b2).at HX.out
          obtain ⟨g2, o2, hA2, k2, -, c2, -⟩ := ((HM.out.below b1).below b2).at HY.out
          subst hA1 hA2
          rw [Nat.zero_mul] at c1 c2
          have s1 : ∀ z : Since w2, z.1.cell? ⟨g1, o1 + 1, none⟩ = some (.int .i64 x.d) := fun z => (z.2.cell k1).trans c1
          have s2 : ∀ z : Since w2, z.1.cell? ⟨g2, o2 + 1, none⟩ = some (.int .i64 y.d) := fun z => (z.2.cell k2).trans c2
          clear c1 c2
          go_wp2_with fail
          refine region_since w2 (by kernel_rfl) (by kernel_rfl) (Below.refl _ _) ?_
          repeat (go_big_quiet_step (fail))
          refine wpQuiet_nil ?_
          rintro w4 ⟨z, hw⟩
          have B2 : Below w1.heap.size w1 w4 := b2.trans ((hw ▸ z.2 : Below w2.heap.size w2 w4).mono b2.size)
          clear hw z
          clear s1 s2
          go_wp2_with fail
          go_ret
          exact ⟨rfl, b1.trans (B2.mono b1.size)⟩
        · skip
          obtain rfl : (10 : Int) = v := by have := HV.out; rwa [if_neg hd] at this
          clear HV
          go_enter Tryd.func35, Tryd.ntmps35
          go_wp2_with fail
          refine (C1.out _ HL.out).mono ?_
          rintro e w1 ⟨rfl, b1⟩
          go_wp2_with fail
          refine (C2.out _ (HM.out.below b1)).mono ?_
          rintro e w2 ⟨rfl, b2⟩
          obtain ⟨g1, o1, hA1, k1, -, c1, -⟩ := ((HL.out.below b1).below b2).at HX.out
          obtain ⟨g2, o2, hA2, k2, -, c2, -⟩ := ((HM.out.below b1).below b2).at HY.out
          subst hA1 hA2
          rw [Nat.zero_mul] at c1 c2
          have s1 : ∀ z : Since w2, z.1.cell? ⟨g1, o1 + 1, none⟩ = some (.int .i64 x.d) := fun z => (z.2.cell k1).trans c1
          have s2 : ∀ z : Since w2, z.1.cell? ⟨g2, o2 + 1, none⟩ = some (.int .i64 y.d) := fun z => (z.2.cell k2).trans c2
          clear c1 c2
          go_wp2_with fail
          refine region_since w2 (by kernel_rfl) (by kernel_rfl) (Below.refl _ _) ?_
          repeat (go_big_quiet_step (fail))
          refine wpQuiet_nil ?_
          rintro w4 ⟨z, hw⟩
          have B2 : Below w1.heap.size w1 w4 := b2.trans ((hw ▸ z.2 : Below w2.heap.size w2 w4).mono b2.size)
          clear hw z
          clear s1 s2
          go_wp2_with fail
          go_ret
          exact ⟨rfl, b1.trans (B2.mono b1.size)⟩
    · rw [both_second h1 h2]
      rw [h1] at C1
      clear h1
      generalize checkE M iM = v at C2 h2 ⊢
      have hv0 : (v == 0) = false := by simpa using h2
      go_enter Tryd.func35, Tryd.ntmps35
      go_wp2_with fail
      refine (C1.out _ HL.out).mono ?_
      rintro e w1 ⟨rfl, b1⟩
      go_wp2_with fail
      refine (C2.out _ (HM.out.below b1)).mono ?_
      rintro e w2 ⟨rfl, b2⟩
      have B2 := b2
      go_wp2_with fail
      go_ret
      exact ⟨rfl, b1.trans (B2.mono b1.size)⟩
  · rw [both_first h1]
    generalize checkE L iL = v at C1 h1 ⊢
    have hv0 : (v == 0) = false := by simpa using h1
    go_enter Tryd.func35, Tryd.ntmps35
    go_wp2_with fail
    refine (C1.out _ HL.out).mono ?_
    rintro e w1 ⟨rfl, b1⟩
    have B1 := b1
    go_wp2_with fail
    go_ret
    exact ⟨rfl, B1⟩
end Go.Proofs.YtmepiogoofmbbaaDoor.chain
namespace Go.Proofs.YtmepiogoofmbbaaDoor.chain
open Go.ChangeShapes Go.WideShapes Go.ChangeAt Go.RowKit Go.Shelf Go.Sort
open Go.Proofs.YtmepiogoofmbbaaDoor.tm Go.Proofs.YtmepiogoofmbbaaDoor.opened Go.Proofs.YtmepiogoofmbbaaDoor.block Go.Proofs.YtmepiogoofmbbaaDoor.stamp

theorem meet_bad {A B : List Tm} {iA : InL A} {iB : InL B} (h : bothE A B iA iB ≠ 0) : meetLE A B iA iB = bothE A B iA iB ∧ meetLV A B iA iB = [] :=
  ⟨by unfold meetLE; rw [if_pos h], by unfold meetLV; rw [if_pos h]⟩
theorem meet_good {A B : List Tm} {iA : InL A} {iB : InL B} (h : bothE A B iA iB = 0) : meetLE A B iA iB = makeE (A ++ B) (in_app iA iB) ∧ meetLV A B iA iB = makeV (A ++ B) (in_app iA iB) := by
  have n : ¬ bothE A B iA iB ≠ 0 := fun q => q h
  exact ⟨by unfold meetLE; rw [if_neg n], by unfold meetLV; rw [if_neg n]⟩
theorem both_few {A B : List Tm} {iA : InL A} {iB : InL B} (h : bothE A B iA iB = 0) : A.length ≤ 64 ∧ B.length ≤ 64 := ⟨(both_ok h).1.few, (both_ok h).2.1.few⟩
set_option maxRecDepth 100000 in
theorem meet_chain (A B : Option Addr) (c d : Nat) (L M : List Tm) (iL : InL L) (iM : InL M) (mL : L.length ≤ 4611686018427387903) (mM : M.length ≤ 4611686018427387903) (w : World) (hL : Lt w A L) (hM : Lt w B M) :
    Calls Tryd.prog 16 #[.slice A L.length c, .slice B M.length d] w fun e W' => ∃ D c', e = .returned (.tuple #[.slice D (meetLV L M iL iM).length c', .int .i64 (meetLE L M iL iM)]) ∧ Lt W' D (meetLV L M iL iM) ∧ Below w.heap.size w W' := by
  have HL := Lib.hid hL
  have HM := Lib.hid hM
  have CB := Lib.hid (checkBoth_any A B c d L M iL iM mL mM)
  clear hL hM
  by_cases h : bothE L M iL iM = 0
  · obtain ⟨e1, e2⟩ := meet_good h
    obtain ⟨f1, f2⟩ := both_few h
    have CC := Lib.hid (fun (g : Nat) (W : World) => concat_any g A B c d L M (by omega) (by omega) W)
    have MK := fun D c' => make_any D c' (L ++ M) (in_app iL iM) (by rw [List.length_append]; omega)
    simp only [List.length_append] at MK
    have MK := Lib.hid MK
    rw [e1, e2]
    rw [h] at CB
    generalize makeE (L ++ M) (in_app iL iM) = m at MK ⊢
    generalize makeV (L ++ M) (in_app iL iM) = V at MK ⊢
    clear e1 e2 h
    go_enter Tryd.func16, Tryd.ntmps16
    go_wp2_with fail
    refine (CB.out _ HL.out HM.out).mono ?_
    rintro e w1 ⟨rfl, b1⟩
    have h2 := fresh1 w1 (.cells #[.slice A L.length c, .slice B M.length d] 22)
    have O := Lib.hid (Whole.fresh w1 22 #[.slice A L.length c, .slice B M.length d])
    have CC := Lib.hid (CC.out w1.heap.size _ ((HL.out.below b1).below h2) ((HM.out.below b1).below h2) O.out)
    clear O
    go_wp2_with fail
    refine CC.out.mono ?_
    rintro e w3 ⟨D, c3, rfl, h3, b3⟩
    have H3 := Lib.hid h3.lies
    clear h3 CC
    go_wp2_with fail
    refine (MK.out _ _ _ H3.out).mono ?_
    rintro e w4 ⟨E, c4, rfl, h4, b4⟩
    have H4 := Lib.hid h4
    clear h4
    go_wp2_with fail
    go_ret2
    exact ⟨E, c4, rfl, H4.out, b1.trans ((h2.trans ((b3.trans (b4.mono b3.size)).mono h2.size)).mono b1.size)⟩
  · obtain ⟨e1, e2⟩ := meet_bad h
    rw [e1, e2]
    generalize bothE L M iL iM = m at CB h ⊢
    go_enter Tryd.func16, Tryd.ntmps16
    go_wp2_with fail
    refine (CB.out _ HL.out HM.out).mono ?_
    rintro e w1 ⟨rfl, b1⟩
    go_wp2_with fail
    go_ret2
    exact ⟨none, 0, rfl, Lt.nil _ _, b1⟩
end Go.Proofs.YtmepiogoofmbbaaDoor.chain
