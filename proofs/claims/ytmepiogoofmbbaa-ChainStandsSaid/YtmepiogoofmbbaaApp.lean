/-
  One append for all: times behind a row of one's own, whatever they are; slices.Grow of nothing; slices.Concat of two.
-/
import Derived.Test.YtmepiogoofmbbaaOnw
import Derived.Lib.AppendZeros
import Derived.Laws.AppendOwnNone
namespace Go.Proofs.Ytmepiogoofmbbaa.chain
open Go.ChangeShapes Go.WideShapes Go.ChangeAt Go.RowKit
open Go.Proofs.Ytmepiogoofmbbaa.tm Go.Proofs.Ytmepiogoofmbbaa.opened Go.Proofs.Ytmepiogoofmbbaa.block Go.Proofs.Ytmepiogoofmbbaa.stamp

theorem run_app_none {P : Program} {w : World} (base : Nat) (t ty e : TypeId) (i : TypeInfo) (size : Nat) (ht : P.underlying t = some (.slice e)) (hi : P.info? e = some i)
    (v : Value) (n c : Nat) (xs : List Value) (hown : w.ownsRow base e size v n xs) :
    (Builtin.append_ #[t, t] ty #[v, .slice none 0 c]).run P w = .ok v w := by
  rcases hown.2 with ⟨rfl, rfl⟩ | ⟨g, cap, cur, rfl, _, _, hnc, _⟩
  · simp [Builtin.append_, run_underlying ht, sizeOf, typeInfo, hi, Builtin.lenOf, Builtin.firstCells]
  · simp [Builtin.append_, run_underlying ht, sizeOf, typeInfo, hi, Builtin.lenOf, Builtin.firstCells, hnc, storeCells]
theorem wp_app_none {P : Program} {w : World} {ops : Array Oper} {rest : List Oper} {o : Oper} {a : Act} {Q : Exit → Act → World → Prop} (hgd : o.guard = none) (s x : Operand) (t : TypeId)
    (ho : o.op = .call { callee := .builtin .append, args := #[s, x], argTypes := #[t, t] })
    (base : Nat) (e : TypeId) (i : TypeInfo) (size : Nat) (ht : P.underlying t = some (.slice e)) (hi : P.info? e = some i)
    (v : Value) (n c : Nat) (xs : List Value) (hs : a.eval s = v) (hown : w.ownsRow base e size v n xs) (hx : a.eval x = .slice none 0 c)
    (h : wpList P ops Q rest (a.put o.dst v) w) : wpList P ops Q (o :: rest) a w := by
  refine wpList_plain hgd fun K hK => ?_
  have hrun := run_app_none (P := P) (w := w) base t o.type e i size ht hi v n c xs hown
  unfold Oper.wp
  simp [execOp, ho, resolve, invoke, builtin, hs, hx, hrun, Result.andThen]
  exact hK _ _ h
/-- Times appended to a row of one's own. -/
theorem wp_app {w : World} {ops : Array Oper} {rest : List Oper} {o : Oper} {a : Act} {Q : Exit → Act → World → Prop} (hgd : o.guard = none) (s x : Operand)
    (ho : o.op = .call { callee := .builtin .append, args := #[s, x], argTypes := #[22, 22] })
    (base : Nat) (v : Value) (N : List Tm) (hs : a.eval s = v) (hown : OwnT w base v N) (A : Option Addr) (n c : Nat) (M : List Tm) (hx : a.eval x = .slice A n c) (hn : n = M.length) (hM : Lt w A M)
    (h1 : N.length + M.length ≤ 8192) (hbase : base ≤ w.heap.size)
    (h : ∀ B c' w', OwnT w' base (.slice B (N ++ M).length c') (N ++ M) → Below base w w' → wpList Try.prog ops Q rest (a.put o.dst (.slice B (N ++ M).length c')) w') : wpList Try.prog ops Q (o :: rest) a w := by
  obtain ⟨i0, hi0, hz0, hz1, hz2⟩ := info_parts infoT
  subst hn
  have key : ∀ ad, A = some ad → (∀ j u, (M.flatMap cT)[j]? = some u → w.cell? (ad.add j) = some u) → wpList Try.prog ops Q (o :: rest) a w := by
    intro ad hA hc
    subst hA
    refine wpList_append_own _ hgd s x 22 ho base 26 i0 (.agg #[.int .u32 T0.e, .int .i64 T0.d, .int .u32 T0.a, .int .u32 T0.b, .int .u32 T0.c]) 5 32 Try.underlying22 hi0 hz0 hz1 hz2 rfl (by decide) v N.length (N.flatMap cT) hs hown ad M.length c (M.flatMap cT) hx (by rw [flat_len]) hc (one_flat _) (by simp [maxLen]; omega) (by omega) hbase ?_
    intro v' w' hown' hg _
    have ho2 : OwnT w' base v' (N ++ M) := by unfold OwnT; rw [List.length_append, List.flatMap_append]; exact hown'
    obtain ⟨B, c', hv⟩ := ho2.shape
    subst hv
    exact h B c' w' ho2 (hown.grown0 hbase hg)
  cases M with
  | nil =>
    cases A with
    | none =>
      refine wp_app_none hgd s x 22 ho base 26 i0 5 Try.underlying22 hi0 v N.length c (N.flatMap cT) hs hown hx ?_
      obtain ⟨B, c', hv⟩ := hown.shape
      subst hv
      have := h B c' w (by rw [List.append_nil]; exact hown) (Below.refl _ _)
      rwa [List.append_nil] at this
    | some ad => exact key ad rfl (by intro j u hj; simp at hj)
  | cons y r =>
    obtain ⟨b, off, rfl, hb, -⟩ := hM.at (k := 0) (t := y) rfl
    exact key _ rfl (lt_flat hM)
theorem grow_none (w : World) : Calls Try.prog 105 #[.slice none 0 0, .int .i64 (0 : Nat)] w fun e W' => ∃ B c', e = .returned (.slice B 0 c') ∧ OwnT W' w.heap.size (.slice B 0 c') [] ∧ Below w.heap.size w W' := by
  go_enter Try.func105, Try.ntmps105
  go_wp2
  go_ret
  exact ⟨none, 0, rfl, World.ownsRow_nil _ _ _ _, Below.refl _ _⟩
set_option maxRecDepth 100000 in
theorem grow_any (n : Nat) (hn : n ≤ 8192) (w : World) : Calls Try.prog 105 #[.slice none 0 0, .int .i64 n] w fun e W' => ∃ B c', e = .returned (.slice B 0 c') ∧ OwnT W' w.heap.size (.slice B 0 c') [] ∧ Below w.heap.size w W' := by
  obtain ⟨i0, hi0, hz0, hz1, hz2⟩ := info_parts infoT
  cases n with
  | zero => exact grow_none w
  | succ n =>
    generalize hm : n + 1 = m at hn ⊢
    have hm0 : 0 < m := by omega
    have hm1 : (0 : Int) < (m : Int) := by omega
    have hm2 : ¬ (m : Int) < 0 := by omega
    have hw1 : IntKind.i64.wrap ((m : Int) - 0) = m := by rw [IntKind.wrap_i64]; omega
    have hr := Lib.run_append_nil_zeros (P := Try.prog) w 22 3 22 26 i0 (.agg #[.int .u32 T0.e, .int .i64 T0.d, .int .u32 T0.a, .int .u32 T0.b, .int .u32 T0.c]) .i64 .i64 Try.underlying22 Try.underlying3 hi0 hz0 m hm0 (by omega) (by omega) (by rw [hz2]; omega)
    have HO : ∀ (G : Nat), grownCap w m 0 26 = G → Hid (OwnT (w.drew.alloc (.cells (Builtin.zeroCells (.agg #[.int .u32 T0.e, .int .i64 T0.d, .int .u32 T0.a, .int .u32 T0.b, .int .u32 T0.c] : Value).cells m ++ Builtin.zeroCells (.agg #[.int .u32 T0.e, .int .i64 T0.d, .int .u32 T0.a, .int .u32 T0.b, .int .u32 T0.c] : Value).cells (G - m)) 26)) w.heap.size (.slice (some ⟨w.heap.size, 0, none⟩) 0 G) []) := by
      intro G hG
      have g1 := grownCap_ge w m 0 26
      have g2 := grownCap_le_maxLen w m 0 26 (by simp [maxLen]; omega)
      rw [hG] at g1 g2
      refine Lib.hid ⟨rfl, .inr ⟨w.heap.size, G, _, rfl, Nat.le_refl _, heap_new w.drew _, Nat.zero_le _, g2, ?_, rfl⟩⟩
      rw [Array.size_append, size_zeroCells, size_zeroCells]
      show m * 5 + (G - m) * 5 = G * 5
      omega
    obtain ⟨G, hG⟩ : ∃ G, grownCap w m 0 26 = G := ⟨_, rfl⟩
    have HO := HO G hG
    rw [hG] at hr
    have hr := Lib.hid hr
    have hb : Below w.heap.size w (w.drew.alloc (.cells (Builtin.zeroCells (.agg #[.int .u32 T0.e, .int .i64 T0.d, .int .u32 T0.a, .int .u32 T0.b, .int .u32 T0.c] : Value).cells m ++ Builtin.zeroCells (.agg #[.int .u32 T0.e, .int .i64 T0.d, .int .u32 T0.a, .int .u32 T0.b, .int .u32 T0.c] : Value).cells (G - m)) 26)) := ((Below.refl _ w).drew).alloc (Nat.le_refl _) _
    have hb := Lib.hid hb
    clear hG
    generalize w.drew.alloc (.cells (Builtin.zeroCells (.agg #[.int .u32 T0.e, .int .i64 T0.d, .int .u32 T0.a, .int .u32 T0.b, .int .u32 T0.c] : Value).cells m ++ Builtin.zeroCells (.agg #[.int .u32 T0.e, .int .i64 T0.d, .int .u32 T0.a, .int .u32 T0.b, .int .u32 T0.c] : Value).cells (G - m)) 26) = W at hr HO hb
    go_enter Try.func105, Try.ntmps105
    go_wp2_with (at_builtin; refine Lib.wpList_append_run _ rfl _ _ _ _ rfl _ _ rfl rfl _ _ hr.out ?_)
    go_ret
    exact ⟨_, _, rfl, HO.out, hb.out⟩
end Go.Proofs.Ytmepiogoofmbbaa.chain
