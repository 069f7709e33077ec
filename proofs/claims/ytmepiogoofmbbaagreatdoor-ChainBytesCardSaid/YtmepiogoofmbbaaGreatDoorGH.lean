/-
  slices.Values at times.
  slices.Values, slices.AppendSeq and slices.Collect at times.
  slices.Collect and slices.SortedFunc at times.
  The contract of chain.minimal.
  The contract of chain.Make.
  The contracts of slices.Equal at times, of chain.Check and of watershedlaw06.own's callers.
-/
import Derived.Test.YtmepiogoofmbbaaGreatDoorGG
import Derived.RangeFuncNested
import Derived.RangeFuncBound
import Derived.RangeFuncCalls
import Derived.RangeFuncLeaves
import Derived.RangeFuncBox
import Derived.Shelf.Abstract
import Derived.WalkKit
import Derived.OwnWalkIn
import Derived.TacticsInMore
import Derived.LoopNIn
import Derived.LoopIn
import Derived.Test.YtmepiogoofmbbaaGreatDoorGF
import Derived.Maps.AppendAt
import Derived.WalkMore
namespace Go.Proofs.YtmepiogoofmbbaaGreatDoor.chain
open Go.ChangeShapes Go.WideShapes Go.ChangeAt Go.RowKit Go.Shelf
open Go.Proofs.YtmepiogoofmbbaaGreatDoor.tm Go.Proofs.YtmepiogoofmbbaaGreatDoor.opened Go.Proofs.YtmepiogoofmbbaaGreatDoor.block Go.Proofs.YtmepiogoofmbbaaGreatDoor.stamp
attribute [local go_sem] Oper.semAt_some

theorem take_more {α : Type} [Inhabited α] {M : List α} {k : Nat} (h : k < M.length) : M.take (k + 1) = M.take k ++ [M[k]!] := by
  rw [List.take_add_one, List.getElem?_eq_getElem h, getElem!_pos M k h]; rfl
/-- Each of them lies in its place. -/
def At (w : World) (b off : Nat) (M : List TI) : Prop := ∀ j, j < M.length → w.cell? ⟨b, off + j * 5, none⟩ = some (.int .u32 M[j]!.1.e) ∧ w.cell? ⟨b, off + j * 5 + 1, none⟩ = some (.int .i64 M[j]!.1.d) ∧ w.cell? ⟨b, off + j * 5 + 2, none⟩ = some (.int .u32 M[j]!.1.a) ∧ w.cell? ⟨b, off + j * 5 + 3, none⟩ = some (.int .u32 M[j]!.1.b) ∧ w.cell? ⟨b, off + j * 5 + 4, none⟩ = some (.int .u32 M[j]!.1.c)
theorem At.below {w w' : World} {n₀ b off : Nat} {M : List TI} (h : At w b off M) (hb : Below n₀ w w') (hl : b < n₀) : At w' b off M := fun j hj =>
  have q := h j hj
  ⟨(hb.cell (p := ⟨b, _, none⟩) hl).trans q.1, (hb.cell (p := ⟨b, _, none⟩) hl).trans q.2.1, (hb.cell (p := ⟨b, _, none⟩) hl).trans q.2.2.1, (hb.cell (p := ⟨b, _, none⟩) hl).trans q.2.2.2.1, (hb.cell (p := ⟨b, _, none⟩) hl).trans q.2.2.2.2⟩
set_option maxRecDepth 100000 in
set_option maxHeartbeats 2000000 in
/-- slices.Values's closure. -/
theorem values1 (F : Fence) (n : Nat) (h7 : F.fn 71) (hro : F.round = none) (hn : 1 ≤ n) (l Bs n₀ b off cap : Nat) (M : List TI) (hreach : M.length ≤ 4611686018427387903) (hb : b < n₀) (J Jx : List TI → World → Prop)
    (hY : ∀ pre x W, J pre W → pre.length < M.length → YieldAt F (n - 1) Tryz.prog l #[.agg (encI x).toArray] W fun e W' =>
      (e = .returned (.bool true) ∧ J (pre ++ [x]) W' ∧ Below n₀ W W') ∨ (e = .returned (.bool false) ∧ Jx (pre ++ [x]) W'))
    (W : World) (hn₀ : n₀ ≤ W.heap.size) (hJ : AbidesFrom W.heap.size J) (hBs : W.cell? ⟨Bs, 0, none⟩ = some (.slice (some ⟨b, off, none⟩) M.length cap)) (hc : At W b off M) (h0 : J [] W) :
    CallsIn F n Tryz.prog 71 #[.func (.yield l) #[] #[], .pointer (some ⟨Bs, 0, none⟩)] W fun e W' => (∃ v, e = .returned v) ∧
      ((∃ ys, ys = M ∧ J ys W') ∨ (∃ pre, pre <+: M ∧ Jx pre W')) := by
  refine callsIn_of_wp Tryz.func71 rfl h7 ?_ hro
  simp only [Tryz.ntmps71, List.size_toArray, List.length_cons, List.length_nil, Nat.reduceAdd, Nat.reduceSub, Array.replicate_succ, Array.replicate_zero, List.push_toArray, List.append_toArray, List.nil_append, List.cons_append]
  gi_wp2
  gi_loopw [7] (fun i wr => ∃ k : Nat, k ≤ M.length ∧ i = .int .i64 k ∧ J (M.take k) wr ∧ Below n₀ W wr)
    (fun i _ => M.length - (intOf i).toNat)
  case atStart => exact ⟨0, Nat.zero_le _, rfl, h0, Below.refl _ _⟩
  case round =>
    obtain ⟨k, hk, rfl, hJs, hnx⟩ := hrel
    by_cases hlt : k < M.length
    · obtain ⟨c0, c1, c2, c3, c4⟩ := hc.below hnx hb k hlt
      have hM := Lib.hid (take_more hlt)
      have hx : ∃ x : TI, M[k]! = x := ⟨_, rfl⟩
      obtain ⟨x, hx⟩ := hx
      rw [hx] at c0 c1 c2 c3 c4 hM
      clear hx
      have hJ2 := hJ _ _ _ none hJs (World.grownBy_alloc wr (.cells #[.int .u32 x.1.e, .int .i64 x.1.d, .int .u32 x.1.a, .int .u32 x.1.b, .int .u32 x.1.c] 49) none) (fun r e => by cases e)
      obtain ⟨fn, tmps, assign, body, hy, hR⟩ := hY _ x _ hJ2 (by simp; omega)
      simp only [encI, cT] at hy hR
      gi_wp2
      refine hR.mono ?_
      rintro e W3 (⟨rfl, hJ3, hk3⟩ | ⟨rfl, hJx3⟩)
      · gi_wp2
        go_roundw
        case rel => exact ⟨k + 1, by omega, by go_num, by rw [hM.out]; exact hJ3, (hnx.alloc (by have := hnx.size; omega) _).trans hk3⟩
        case measure => simp [intOf]; omega
      · gi_wp2
        refine bodyPost_ret (results_none rfl _ _ _) rfl ?_
        exact ⟨⟨_, rfl⟩, .inr ⟨_, ⟨M.drop (k + 1), by rw [← hM.out]; exact List.take_append_drop _ _⟩, hJx3⟩⟩
    · obtain rfl : k = M.length := by omega
      gi_wp2
      go_end0
      exact ⟨⟨_, rfl⟩, .inl ⟨_, rfl, by rw [List.take_length] at hJs; exact hJs⟩⟩
end Go.Proofs.YtmepiogoofmbbaaGreatDoor.chain
namespace Go.Proofs.YtmepiogoofmbbaaGreatDoor.chain
open Go.ChangeShapes Go.WideShapes Go.ChangeAt Go.RowKit Go.Shelf
open Go.Proofs.YtmepiogoofmbbaaGreatDoor.tm Go.Proofs.YtmepiogoofmbbaaGreatDoor.opened Go.Proofs.YtmepiogoofmbbaaGreatDoor.block Go.Proofs.YtmepiogoofmbbaaGreatDoor.stamp
attribute [local go_sem] Oper.semAt_some

set_option maxRecDepth 100000 in
set_option maxHeartbeats 1000000 in
theorem values1_nil (F : Fence) (n : Nat) (h7 : F.fn 71) (hro : F.round = none) (l Bs : Nat) (A : Option Addr) (cap : Nat) (J : List TI → World → Prop) (W : World) (hBs : W.cell? ⟨Bs, 0, none⟩ = some (.slice A 0 cap)) (h0 : J [] W) :
    CallsIn F n Tryz.prog 71 #[.func (.yield l) #[] #[], .pointer (some ⟨Bs, 0, none⟩)] W fun e W' => (∃ v, e = .returned v) ∧ J [] W' := by
  refine callsIn_of_wp Tryz.func71 rfl h7 ?_ hro
  simp only [Tryz.ntmps71, List.size_toArray, List.length_cons, List.length_nil, Nat.reduceAdd, Nat.reduceSub, Array.replicate_succ, Array.replicate_zero, List.push_toArray, List.append_toArray, List.nil_append, List.cons_append]
  gi_wp2
  gi_loopw [7] (fun i wr => i = .int .i64 0 ∧ J [] wr) (fun _ _ => 0)
  case atStart => exact ⟨rfl, h0⟩
  case round =>
    obtain ⟨rfl, hJs⟩ := hrel
    gi_wp2
    go_end0
    exact ⟨⟨_, rfl⟩, hJs⟩
theorem values_call (A : Option Addr) (len cap : Nat) (w : World) :
    Calls Tryz.prog 58 #[.slice A len cap] w fun e w' => e = .returned (.func (.func 71) #[] #[.pointer (some ⟨w.heap.size, 0, none⟩)]) ∧ w' = w.alloc (.cells #[.slice A len cap] 22) := by
  go_enter Tryz.func58, Tryz.ntmps58
  go_wp2
  go_ret
  exact ⟨rfl, rfl⟩
theorem At.of {w : World} {A : Option Addr} {L : List Tm} {h : InL L} {b off : Nat} (hL : Lt w A L) (hA : A = some ⟨b, off, none⟩) : At w b off (tis L h) := fun j hj => by
  obtain ⟨b', off', hA', -, c⟩ := hL.at (tis_get hj)
  rw [hA] at hA'
  injection (Option.some.inj hA') with h1 h2
  subst h1 h2
  exact c
theorem Lt.inside {w : World} {A : Option Addr} {L : List Tm} (h : Lt w A L) (hne : L ≠ []) : ∀ b off, A = some ⟨b, off, none⟩ → b < w.heap.size := by
  intro b off e
  rcases h with h | ⟨b', off', hA, hbl, -⟩
  · exact absurd (by simpa using h) hne
  · rw [e] at hA
    injection (Option.some.inj hA) with h1 h2
    rw [h1]; exact hbl
/-- What slices.Values hands back gives just these times, one after another. -/
theorem values_stops (F : Fence) (n : Nat) (h7 : F.fn 71) (hro : F.round = none) (hn : 1 ≤ n) (Bs n₀ : Nat) (A : Option Addr) (cap : Nat) (L : List Tm) (iL : InL L) (mL : L.length ≤ 4611686018427387903) (w : World) (hBs : Bs < w.heap.size) (hn₀ : n₀ ≤ w.heap.size)
    (hc : w.cell? ⟨Bs, 0, none⟩ = some (.slice A L.length cap)) (hL : Lt w A L) (hA : L ≠ [] → ∀ b off, A = some ⟨b, off, none⟩ → b < n₀) :
    SeqStopsK F n Tryz.prog 71 #[.pointer (some ⟨Bs, 0, none⟩)] (fun x : TI => #[.agg #[.int .u32 x.1.e, .int .i64 x.1.d, .int .u32 x.1.a, .int .u32 x.1.b, .int .u32 x.1.c]]) (Below n₀) (fun ys => ys = tis L iL) (fun pre => pre <+: tis L iL) (tis L iL).length w := fun l J Jx W hW hJ _ hY h0 => by
  have hc' := (hW.cell (p := ⟨Bs, 0, none⟩) hBs).trans hc
  cases L with
  | nil => exact (values1_nil F n h7 hro l Bs A cap J W hc' h0).mono fun e W' ⟨he, hj⟩ => ⟨he, .inl ⟨_, rfl, hj⟩⟩
  | cons t r =>
    obtain ⟨b, off, rfl, hb, -⟩ := hL.at (k := 0) (t := t) rfl
    have hb0 := hA (by simp) b off rfl
    rw [← tis_len (t :: r) iL] at hc'
    exact values1 F n h7 hro hn l Bs n₀ b off cap (tis (t :: r) iL) (by rw [tis_len]; exact mL) hb0 J Jx hY W (Nat.le_trans hn₀ hW.size) hJ hc' ((At.of hL rfl).below hW hb) h0
theorem box_own {β : Type} (B : Nat) (cs : β → Array Value) (t : TypeId) : Own (fun s W => W.heap[B]? = some (.cells (cs s) t (0, 0))) := fun s X Y row h hg hr => (hg.block B (Array.getElem?_eq_some_iff.1 h).1 (fun e => by obtain ⟨o, ho, hc⟩ := hr B e.symm; rw [h] at ho; cases ho; cases hc)).trans h
set_option maxRecDepth 100000 in
set_option maxHeartbeats 2000000 in
theorem appendSeq (F : Fence) (n : Nat) (hf : F.fn 81) (gf : Nat) (lb : Array Value) (hg : F.fn gf) (eg : ∀ args w, (callFunc gf args).run Tryz.prog w = .ok (.enter gf args) w) (hro : F.round = none) (hn : 3 ≤ n) (M : List TI) (hlen : M.length ≤ 4096) (w : World)
    (hs : SeqStopsK F (n - 1) Tryz.prog gf lb (fun x : TI => #[.agg #[.int .u32 x.1.e, .int .i64 x.1.d, .int .u32 x.1.a, .int .u32 x.1.b, .int .u32 x.1.c]]) (Below w.heap.size) (fun ys => ys = M) (fun pre => pre <+: M) M.length w) :
    CallsIn F n Tryz.prog 81 #[.slice none 0 0, .func (.func gf) #[] lb] w fun e W' => ∃ v, e = .returned v ∧ W'.ownsRow w.heap.size 49 5 v M.length (M.flatMap encI) ∧ (v = .slice none 0 0 ↔ M = []) ∧ Below w.heap.size w W' := by
  have h1 : 1 ≤ n := by omega
  obtain ⟨i0, hi, hz0, hz1, hz2⟩ := info_parts infoT
  refine callsIn_of_wp_marks Tryz.func81 rfl hf ?_ hro
  simp only [Tryz.ntmps81, List.size_toArray, List.length_cons, List.length_nil, Nat.reduceAdd, Nat.reduceSub, Array.replicate_succ, Array.replicate_zero, List.push_toArray, List.append_toArray, List.nil_append, List.cons_append]
  gi_wp2
  have bO := Boxed.new w 22 (.slice none 0 0)
  have hB0 : Below w.heap.size w (w.alloc (.cells #[.slice none 0 0] 22)) := (Below.refl _ w).alloc (Nat.le_refl _) _
  refine wpIn_rangeFunc_ownH hro h1 (gf := gf) (lb := lb) rfl hg eg
    hs belowK_t (belowK_b (by simp)) hB0 (fun _ => rfl)
    (fun pre W => (∃ v, Boxed W w.heap.size 22 v ∧ W.ownsRow w.heap.size 49 5 v pre.length (pre.flatMap encI) ∧ (v = .slice none 0 0 ↔ pre = [])) ∧ Below w.heap.size w W)
    (fun _ _ _ => False)
    (OwnFrom.and (Own.from (holdsRow_own w.heap.size w.heap.size 22 49 5 (fun pre => pre.length) (fun pre => pre.flatMap encI) (fun pre v => v = .slice none 0 0 ↔ pre = [])) _) (ownFrom_below (Nat.le_refl _) (by simp)))
    (fun _ _ _ _ _ hs _ _ => hs)
    ⟨⟨_, bO, World.ownsRow_nil _ _ _ _, by simp⟩, hB0⟩
    (fun x a' W => ∃ Bx, w.heap.size < Bx ∧ W.heap[Bx]? = some (.cells #[.int .u32 x.1.e, .int .i64 x.1.d, .int .u32 x.1.a, .int .u32 x.1.b, .int .u32 x.1.c] 49 (0, 0)) ∧ a' = { tmps := #[.slice none 0 0, .func (.func gf) #[] lb, .pointer (some ⟨w.heap.size, 0, none⟩), undef, .slice none 0 0, .pointer (some ⟨Bx, 0, none⟩), .func (.func gf) #[] lb, .agg #[.int .u32 x.1.e, .int .i64 x.1.d, .int .u32 x.1.a, .int .u32 x.1.b, .int .u32 x.1.c], undef, undef, undef, undef, undef], defers := [] })
    (fun x a' _ X Y row hs hg hr => by obtain ⟨Bx, h1, h2, h3⟩ := hs; exact ⟨Bx, h1, box_own Bx (fun (_ : Unit) => #[.int .u32 x.1.e, .int .i64 x.1.d, .int .u32 x.1.a, .int .u32 x.1.b, .int .u32 x.1.c]) 49 () X Y row h2 hg (fun r e => (hr r e).2), h3⟩)
    ?assign ?body ?done ?stop
  case assign =>
    rintro l pre x W K ⟨⟨v, bS1, hrow, hnil⟩, hB1⟩ hK
    gi_wp2
    exact hK _ _ ((KeepsOthers.alloc _ _).from _) ((Below.refl _ W).alloc hB1.size _) ⟨⟨v, bS1.alloc _, hrow.alloc _, hnil⟩, hB1.alloc hB1.size _⟩ ⟨W.heap.size, bS1.lt, World.alloc_heap_new W _, rfl⟩
  case body =>
    rintro l pre x a' W hl ⟨r, hr⟩ ⟨⟨v, hv, hrow, hnil⟩, hB⟩ ⟨Bx, hBx, hX, rfl⟩ hlt
    have hc := hv.cell
    have x0 : W.cell? ⟨Bx, 0, none⟩ = some (.int .u32 x.1.e) := by simp [World.cell?, hX]
    have x1 : W.cell? ⟨Bx, 1, none⟩ = some (.int .i64 x.1.d) := by simp [World.cell?, hX]
    have x2 : W.cell? ⟨Bx, 2, none⟩ = some (.int .u32 x.1.a) := by simp [World.cell?, hX]
    have x3 : W.cell? ⟨Bx, 3, none⟩ = some (.int .u32 x.1.b) := by simp [World.cell?, hX]
    have x4 : W.cell? ⟨Bx, 4, none⟩ = some (.int .u32 x.1.c) := by simp [World.cell?, hX]
    gi_wp2_with (gi_at_builtin; refine wpListIn_append_own _ rfl _ _ 22 rfl w.heap.size 49 i0 (.agg #[.int .u32 T0.e, .int .i64 T0.d, .int .u32 T0.a, .int .u32 T0.b, .int .u32 T0.c]) 5 32 Tryz.underlying22 hi hz0 hz1 hz2 rfl (by decide) _ _ _ rfl (hrow.alloc _) ⟨W.heap.size, 0, none⟩ 1 1 (cT x.1) rfl rfl (cells_new _ _ _) (oneT x) (by simp [maxLen]; omega) (by omega) (by have := hB.size; simp; omega) ?_; intro v' w1 hown' hgrow _; obtain ⟨g', cap', rfl⟩ := ownsRow_succ hown'; obtain ⟨hv1, hv2, hr2, hk2, hb2⟩ := hv.appended (by decide) hrow hB.size (Nat.le_refl _) hown' hgrow; have hc1 := hv1.cell; have hf1 := hv1.frozen)
    exact ⟨hk2.from _, hb2, ⟨_, hv2, by simpa [encI] using hr2, by simp⟩, hB.trans hb2⟩
  case done =>
    rintro D ys W hD rfl ⟨⟨v, hv, hrow, hnil⟩, hB⟩ hK
    have hc := hv.cell
    gi_wp2
    refine ⟨by simp, .inl ⟨_, _, rfl, run_takeDeferred hK, ?_⟩⟩
    exact ⟨_, results_tmp rfl _ _ _, v, rfl, ownsRow_putObj hrow _ hK rfl, hnil, hB.trans (belowK_b (w := w) (Nat.le_refl _) W D _ _ (by simp at hD; omega) hK rfl rfl)⟩
  case stop =>
    rintro D c pre W _ _ h _
    exact h.elim
end Go.Proofs.YtmepiogoofmbbaaGreatDoor.chain
namespace Go.Proofs.YtmepiogoofmbbaaGreatDoor.chain
open Go.ChangeShapes Go.WideShapes Go.ChangeAt Go.RowKit Go.Shelf Go.Sort
open Go.Proofs.YtmepiogoofmbbaaGreatDoor.tm Go.Proofs.YtmepiogoofmbbaaGreatDoor.opened Go.Proofs.YtmepiogoofmbbaaGreatDoor.block Go.Proofs.YtmepiogoofmbbaaGreatDoor.stamp

theorem flat_get (M : List TI) : ∀ t, t < M.length * 5 → (M.flatMap encI)[t]? = some ((encI M[t / 5]!)[t % 5]!) := by
  induction M with
  | nil => intro t h; simp at h
  | cons x r ih =>
    intro t h
    have h5 : (encI x).length = 5 := rfl
    rw [List.flatMap_cons]
    by_cases ht : t < 5
    · rw [List.getElem?_append_left (by rw [h5]; exact ht), show t / 5 = 0 by omega, show t % 5 = t by omega]
      rw [List.getElem?_eq_getElem (by rw [h5]; exact ht)]
      simp only [List.getElem!_cons_zero]
      rw [getElem!_pos _ t (by rw [h5]; exact ht)]
    · rw [List.getElem?_append_right (by rw [h5]; omega), h5, ih (t - 5) (by simp at h; omega)]
      rw [show t / 5 = (t - 5) / 5 + 1 by omega, show (t - 5) % 5 = t % 5 by omega, List.getElem!_cons_succ]
theorem lt_of_holds {w : World} {b : Nat} (N : List TI) (h : HoldsK encI 5 w b 0 N.toArray) (hb : b < w.heap.size) : Lt w (some ⟨b, 0, none⟩) (N.map (·.1)) := by
  refine .inr ⟨b, 0, rfl, hb, fun i x hx => ?_⟩
  simp only [List.map_map, List.getElem?_map, Option.map_eq_some_iff] at hx
  obtain ⟨y, hy, rfl⟩ := hx
  refine ⟨rfl, fun j hj => ?_⟩
  obtain ⟨hi, hy⟩ := List.getElem?_eq_some_iff.1 hy
  have hc := (h.cell (i := i) (c := j) (by simpa using hi) hj).1
  rw [← Nat.add_assoc, hc]
  rw [show N.toArray[i]! = y by simp [hi, hy]]
  show some ((cT y.1)[j]!) = (cT y.1)[j]?
  rw [List.getElem?_eq_getElem (show j < (cT y.1).length from hj), getElem!_pos _ j (show j < (cT y.1).length from hj)]
theorem holds_of_own {w : World} {base : Nat} {v : Value} {M : List TI} (h : w.ownsRow base 49 5 v M.length (M.flatMap encI)) : (v = .slice none 0 0 ∧ M = []) ∨ ∃ g cap, v = .slice (some ⟨g, 0, none⟩) M.length cap ∧ base ≤ g ∧ g < w.heap.size ∧ HoldsK encI 5 w g 0 M.toArray := by
  rcases h.2 with ⟨hv, hn⟩ | ⟨g, cap, cur, hv, hb, hg, hc, hcm, hs, ht⟩
  · exact .inl ⟨hv, List.eq_nil_of_length_eq_zero hn⟩
  · refine .inr ⟨g, cap, hv, hb, (Array.getElem?_eq_some_iff.1 hg).1, fun t ht' => ?_⟩
    have ht2 : t < M.length * 5 := by simpa using ht'
    have e := flat_get M t ht2
    rw [← ht, List.getElem?_take, if_pos ht2, Array.getElem?_toList] at e
    rw [get_flatK _ _ _ _ (by simpa using ht2)]
    constructor
    · simp [World.cell?, hg, e]
    · simp [World.frozen?, hg]
/-- The list, sorted. -/
def srtL (L : List Tm) (h : InL L) : List Tm := (srt (tis L h)).map (·.1)
theorem srtL_len (L : List Tm) (h : InL L) : (srtL L h).length = L.length := by simp [srtL, srt, tis_len]
set_option maxRecDepth 100000 in
theorem collect_any (Bs : Nat) (A : Option Addr) (cap : Nat) (L : List Tm) (iL : InL L) (mL : L.length ≤ 4096) (w : World) (hBs : Bs < w.heap.size) (hc : w.cell? ⟨Bs, 0, none⟩ = some (.slice A L.length cap)) (hL : Lt w A L) :
    Calls Tryz.prog 69 #[.func (.func 71) #[] #[.pointer (some ⟨Bs, 0, none⟩)]] w fun e W' => ∃ v, e = .returned v ∧ W'.ownsRow w.heap.size 49 5 v L.length ((tis L iL).flatMap encI) ∧ Below w.heap.size w W' := by
  have K := callsIn_wide.1 (appendSeq Fence.wide 4 trivial 71 #[.pointer (some ⟨Bs, 0, none⟩)] trivial (enters_of Tryz.func71 (by kernel_rfl) rfl) rfl (by omega) (tis L iL) (by rw [tis_len]; exact mL) w
    (values_stops Fence.wide 3 trivial rfl (by omega) Bs w.heap.size A cap L iL (by omega) w hBs (Nat.le_refl _) hc hL hL.inside))
  rw [tis_len] at K
  go_enter Tryz.func69, Tryz.ntmps69
  go_wp2_with fail
  refine K.mono ?_
  rintro e w4 ⟨v, rfl, ho, -, b4⟩
  go_wp2_with fail
  go_ret
  exact ⟨v, rfl, ho, b4⟩
theorem below_sorted {w0 w : World} {B g n : Nat} {d : Array TI} {os : Array Obj} (h : Below B w0 w) (hg : B ≤ g) (hB : B ≤ w.heap.size) : Below B w0 (sortWorldK encI 5 w g 0 n d os) := by
  have hsz : (putRowK encI 5 (Sort.ahead w n) g 0 d).heap.size = w.heap.size := by simp [putRowK, putRow, mapBlock, Sort.ahead]
  have h1 : Below B w0 (putRowK encI 5 (Sort.ahead w n) g 0 d) := ⟨h.os, h.tape, h.output, by rw [hsz]; exact h.size, fun k hk => by
    rw [← h.block k hk]
    have hne : g ≠ k := by omega
    simp [putRowK, putRow, mapBlock, Sort.ahead, Array.getElem?_modify, hne]⟩
  exact h1.trans ((below_grown (putRowK encI 5 (Sort.ahead w n) g 0 d) 0 os).mono (by rw [hsz]; exact hB))
set_option maxRecDepth 100000 in
theorem sortedFunc_any (Bs : Nat) (A : Option Addr) (cap : Nat) (L : List Tm) (iL : InL L) (mL : L.length ≤ 4096) (w : World) (hBs : Bs < w.heap.size) (hc : w.cell? ⟨Bs, 0, none⟩ = some (.slice A L.length cap)) (hL : Lt w A L) :
    Calls Tryz.prog 57 #[.func (.func 71) #[] #[.pointer (some ⟨Bs, 0, none⟩)], .func (.func 59) #[] #[]] w fun e W' => ∃ B c, e = .returned (.slice B L.length c) ∧ Lt W' B (srtL L iL) ∧ Below w.heap.size w W' := by
  have K := Lib.hid (collect_any Bs A cap L iL mL w hBs hc hL)
  have S0 := Lib.hid sort_none
  have S1 := Lib.hid sort_any
  have hlen := Lib.hid (tis_len L iL)
  rw [← hlen.out] at K ⊢
  go_enter Tryz.func57, Tryz.ntmps57
  go_wp2_with fail
  refine K.out.mono ?_
  rintro e w4 ⟨v, rfl, ho, b4⟩
  rcases holds_of_own ho with ⟨rfl, hM⟩ | ⟨g, cap', rfl, hg, hgl, hH⟩
  · clear ho
    go_wp2_with fail
    refine (S0.out _ _ _).mono ?_
    rintro e w5 ⟨rfl, rfl⟩
    go_wp2_with fail
    go_ret
    exact ⟨none, 0, by rw [hM]; rfl, by rw [show srtL L iL = [] by simp [srtL, hM, srt]]; exact Lt.nil _ _, b4⟩
  · clear ho
    have S2 := Lib.hid (S1.out g 0 cap' (tis L iL) w4 hH hgl (by have := hlen.out; omega))
    have H5 := Lib.hid (fun n os => holdsK_sortWorldK_c encI 5 w4 g 0 (tis L iL).toArray (srt (tis L iL)).toArray n os hH hgl (by simp [srt]))
    have B5 := Lib.hid (fun n os => below_sorted (n := n) (d := (srt (tis L iL)).toArray) (os := os) b4 hg b4.size)
    clear hH S1 S0
    go_wp2_with fail
    refine S2.out.mono ?_
    rintro e w5 ⟨rfl, n, os, rfl⟩
    have H6 := H5.out n os
    have B6 := B5.out n os
    have G6 : g < (sortWorldK encI 5 w4 g 0 n (srt (tis L iL)).toArray os).heap.size := Nat.lt_of_lt_of_le hgl (size_sortWorldK_c encI 5 w4 g 0 n _ os)
    clear H5 B5 S2
    generalize sortWorldK encI 5 w4 g 0 n (srt (tis L iL)).toArray os = w6 at H6 B6 G6 ⊢
    go_wp2_with fail
    go_ret
    exact ⟨_, _, rfl, lt_of_holds _ H6 G6, B6⟩
end Go.Proofs.YtmepiogoofmbbaaGreatDoor.chain
namespace Go.Proofs.YtmepiogoofmbbaaGreatDoor.chain
open Go.ChangeShapes Go.WideShapes Go.ChangeAt Go.RowKit Go.Shelf Go.Sort
open Go.Proofs.YtmepiogoofmbbaaGreatDoor.tm Go.Proofs.YtmepiogoofmbbaaGreatDoor.opened Go.Proofs.YtmepiogoofmbbaaGreatDoor.block Go.Proofs.YtmepiogoofmbbaaGreatDoor.stamp

/-- Those kept, and one time more: unless one of them is not behind it. -/
def keep (K : List Tm) (t : Tm) : List Tm := if K.any (fun k => leB k t) then K else K ++ [t]
/-- The minimal ones, up to the first one too many. -/
def minF : List Tm → List Tm → List Tm
  | [], K => K
  | t :: r, K => if 64 < (keep K t).length then keep K t else minF r (keep K t)
theorem drop_at {L : List Tm} {k : Nat} {t : Tm} (hk : L[k]? = some t) : L.drop k = t :: L.drop (k + 1) := by
  obtain ⟨h, rfl⟩ := List.getElem?_eq_some_iff.1 hk
  exact List.drop_eq_getElem_cons h
theorem min_skip {L K M : List Tm} {k : Nat} {t : Tm} (hk : L[k]? = some t) (h : K.any (fun k => leB k t) = true) (hK : K.length ≤ 64) (e : minF (L.drop k) K = M) : minF (L.drop (k + 1)) K = M := by
  rw [drop_at hk] at e
  simp only [minF, keep, h, if_true] at e
  rwa [if_neg (by omega)] at e
theorem min_add {L K M : List Tm} {k : Nat} {t : Tm} (hk : L[k]? = some t) (h : K.any (fun k => leB k t) = false) (hK : K.length + 1 ≤ 64) (e : minF (L.drop k) K = M) : minF (L.drop (k + 1)) (K ++ [t]) = M := by
  rw [drop_at hk] at e
  simp only [minF, keep, h] at e
  simp only [Bool.false_eq_true, if_false] at e
  rwa [if_neg (by simp; omega)] at e
theorem min_full {L K M : List Tm} {k : Nat} {t : Tm} (hk : L[k]? = some t) (h : K.any (fun k => leB k t) = false) (hK : 64 < K.length + 1) (e : minF (L.drop k) K = M) : K ++ [t] = M := by
  rw [drop_at hk] at e
  simp only [minF, keep, h] at e
  simp only [Bool.false_eq_true, if_false] at e
  rwa [if_pos (by simp; omega)] at e
theorem min_end {L K M : List Tm} (e : minF (L.drop L.length) K = M) : K = M := by
  rwa [List.drop_length] at e
theorem any_none {K : List Tm} {t : Tm} (h : ∀ y ∈ K, leB y t = false) : K.any (fun k => leB k t) = false := by
  rw [List.any_eq_false]
  exact fun y hy => by simp [h y hy]
theorem more_p {L : List Tm} {k : Nat} {t : Tm} {p : Tm → Prop} (hk : L[k]? = some t) (h : ∀ y ∈ L.take k, p y) (ht : p t) : ∀ y ∈ L.take (k + 1), p y := by
  rw [List.take_add_one, hk]
  intro y hy
  rcases List.mem_append.1 hy with h1 | h1
  · exact h y h1
  · simp at h1; subst h1; exact ht
theorem in_snoc {K : List Tm} {t : Tm} (h : InL K) (i : t.In) : InL (K ++ [t]) := by
  intro y hy
  rcases List.mem_append.1 hy with h1 | h1
  · exact h y h1
  · simp at h1; subst h1; exact i
/-- The function value that minimal makes: is a time that was kept not behind this one? -/
theorem below1 (x t : Tm) (ix : x.In) (i : t.In) (g : Nat) (W : World) (O : Whole W g 49 #[.int .u32 t.e, .int .i64 t.d, .int .u32 t.a, .int .u32 t.b, .int .u32 t.c]) : Calls Tryz.prog 67 #[.agg #[.int .u32 x.e, .int .i64 x.d, .int .u32 x.a, .int .u32 x.b, .int .u32 x.c], .pointer (some ⟨g, 0, none⟩)] W fun e w' => e = .returned (.bool (leB x t)) ∧ Below W.heap.size W w' := by
  have LE := Lib.hid (le_any x t ix i)
  have hB := (fresh1 W (.cells #[.int .u32 x.e, .int .i64 x.d, .int .u32 x.a, .int .u32 x.b, .int .u32 x.c] 49))
  have O := O.alloc (.cells #[.int .u32 x.e, .int .i64 x.d, .int .u32 x.a, .int .u32 x.b, .int .u32 x.c] 49)
  have O2 := Whole.fresh W 49 #[.int .u32 x.e, .int .i64 x.d, .int .u32 x.a, .int .u32 x.b, .int .u32 x.c]
  go_enter Tryz.func67, Tryz.ntmps67
  go_upto_region 1 with fail
  change Code.wp _ _ _ _ (W.alloc (.cells #[.int .u32 x.e, .int .i64 x.d, .int .u32 x.a, .int .u32 x.b, .int .u32 x.c] 49))
  have hz : W.heap.size ≤ (W.alloc (.cells #[.int .u32 x.e, .int .i64 x.d, .int .u32 x.a, .int .u32 x.b, .int .u32 x.c] 49)).heap.size := by simp
  generalize W.alloc (.cells #[.int .u32 x.e, .int .i64 x.d, .int .u32 x.a, .int .u32 x.b, .int .u32 x.c] 49) = W2 at O O2 hB hz ⊢
  generalize hm : W.heap.size = m at O2 hz hB ⊢
  obtain ⟨oc, of⟩ := path.all_of O
  obtain ⟨pc, pf⟩ := path.all_of O2
  go_wp2_with fail
  refine (LE.out _).mono ?_
  rintro e w4 ⟨rfl, b4⟩
  go_wp2_with fail
  go_ret
  exact ⟨rfl, by rw [hm]; exact hB.trans (b4.mono hz)⟩
set_option maxRecDepth 100000 in
theorem minimal_any (A : Option Addr) (c : Nat) (L : List Tm) (iL : InL L) (mL : L.length ≤ 4096) (w : World) (hL : Lt w A L) :
    Calls Tryz.prog 56 #[.slice A L.length c] w fun e W' => ∃ B c', e = .returned (.slice B (minF L []).length c') ∧ OwnT W' w.heap.size (.slice B (minF L []).length c') (minF L []) ∧ Below w.heap.size w W' := by
  have HL := Lib.hid hL
  obtain ⟨i0, hi, hz0, hz1, hz2⟩ := info_parts infoT
  go_enter Tryz.func56, Tryz.ntmps56
  go_wp2_with fail
  go_step3
  go_wp2_with fail
  go_step3
  go_wp2_with fail
  go_loopw [3, 11] (fun kp s wr => ∃ (k : Nat) (K : List Tm) (B : Option Addr) (c' : Nat), k ≤ L.length ∧ kp = .slice B K.length c' ∧ s = .int .i64 k ∧ Hid (OwnT wr w.heap.size (.slice B K.length c') K) ∧ Hid (minF (L.drop k) K = minF L []) ∧ K.length ≤ 64 ∧ Hid (InL K) ∧ Below w.heap.size w wr) (fun _ s _ => L.length - (intOf s).toNat)
  case atStart => exact ⟨0, [], none, 0, Nat.zero_le _, rfl, rfl, Lib.hid (World.ownsRow_nil _ _ _ _), Lib.hid rfl, by simp, Lib.hid (by intro t h; simp at h), Below.refl _ _⟩
  case round =>
    obtain ⟨k, K, B, c', hk, rfl, rfl, HO, HN, hK, IK, hb0⟩ := hrel
    by_cases hlt : k < L.length
    · obtain ⟨x, hx, hm⟩ := get_lt hlt
      obtain ⟨b, off, hA, hb, c0, c1, c2, c3, c4⟩ := (HL.out.below hb0).at hx
      subst hA
      have HX := Lib.hid hx
      have ix := Lib.hid (iL x hm)
      have O := Whole.fresh wr 49 #[.int .u32 x.e, .int .i64 x.d, .int .u32 x.a, .int .u32 x.b, .int .u32 x.c]
      have HO1 := Lib.hid (HO.out.below (fresh1 wr (.cells #[.int .u32 x.e, .int .i64 x.d, .int .u32 x.a, .int .u32 x.b, .int .u32 x.c] 49)))
      have hb1 := hb0.alloc hb0.size (.cells #[.int .u32 x.e, .int .i64 x.d, .int .u32 x.a, .int .u32 x.b, .int .u32 x.c] 49)
      clear hx hm HO
      go_wp2_with fail
      clear c0 c1 c2 c3 c4 hb hb0
      have hz : wr.heap.size < (wr.alloc (.cells #[.int .u32 x.e, .int .i64 x.d, .int .u32 x.a, .int .u32 x.b, .int .u32 x.c] 49)).heap.size := by simp
      generalize wr.alloc (.cells #[.int .u32 x.e, .int .i64 x.d, .int .u32 x.a, .int .u32 x.b, .int .u32 x.c] 49) = W1 at O HO1 hb1 hz ⊢
      generalize wr.heap.size = g at O hz ⊢
      have HKL := Lib.hid HO1.out.lies
      have HOx := Lib.hid O
      clear O
      go_loopw [18] (fun s w2 => ∃ j : Nat, j ≤ K.length ∧ s = .int .i64 j ∧ Hid (∀ y ∈ K.take j, leB y x = false) ∧ Below W1.heap.size W1 w2) (fun s _ => K.length - (intOf s).toNat)
      case atStart => exact ⟨0, Nat.zero_le _, rfl, Lib.hid (by simp), Below.refl _ _⟩
      case round =>
        obtain ⟨j, hj, rfl, HJ, b2⟩ := hrel
        by_cases hlj : j < K.length
        · obtain ⟨y, hy, hm⟩ := get_lt hlj
          obtain ⟨b', off', hA, hb', d0, d1, d2, d3, d4⟩ := (HKL.out.below b2).at hy
          subst hA
          have HY := Lib.hid hy
          have C := Lib.hid (below1 y x (IK.out y hm) ix.out g)
          obtain ⟨v, hv⟩ : ∃ v, leB y x = v := ⟨_, rfl⟩
          rw [hv] at C
          have HV := Lib.hid hv
          clear hv hy hm
          have B2 := b2.alloc b2.size (.cells #[.int .u32 y.e, .int .i64 y.d, .int .u32 y.a, .int .u32 y.b, .int .u32 y.c] 49)
          go_wp2_with fail
          refine (C.out _ (HOx.out.below B2 hz)).mono ?_
          rintro e w4 ⟨rfl, b4⟩
          have B4 : Below W1.heap.size W1 w4 := B2.trans (b4.mono B2.size)
          clear b4 d0 d1 d2 d3 d4 hb' b2 B2
          cases v
          · go_wp2_with fail
            go_roundw
            case rel => exact ⟨j + 1, by omega, by go_num, Lib.hid (more_p HY.out HJ.out HV.out), B4⟩
            case measure => simp [intOf]; omega
          · go_wp2_with fail
            go_roundw
            case rel => exact ⟨k + 1, K, _, c', by omega, rfl, by go_num, Lib.hid (HO1.out.below B4), Lib.hid (min_skip HX.out (any_at HY.out HV.out) hK HN.out), hK, IK, hb1.trans (B4.mono hb1.size)⟩
            case measure => simp [intOf]; omega
        · have hjj : j = K.length := by omega
          have HF : Hid (∀ y ∈ K, leB y x = false) := Lib.hid (by have := HJ.out; rwa [hjj, List.take_length] at this)
          subst hjj
          have HO2 := Lib.hid (HO1.out.below b2)
          have hb2 := hb1.trans (b2.mono hb1.size)
          obtain ⟨xc, xf⟩ := path.all_of (HOx.out.below b2 hz)
          clear HJ HO1 HKL b2 hb1 HOx
          by_cases hfull : K.length + 1 ≤ 64
          · go_wp2_with (at_builtin; refine wpList_append_own _ rfl _ _ 22 rfl w.heap.size 49 i0 (.agg #[.int .u32 T0.e, .int .i64 T0.d, .int .u32 T0.a, .int .u32 T0.b, .int .u32 T0.c]) 5 32 Tryz.underlying22 hi hz0 hz1 hz2 rfl (by decide) _ _ _ rfl (HO2.out.alloc _) ⟨_, 0, none⟩ 1 1 (cT x) rfl rfl (cells_new _ _ _) (one_cT x) (by simp [maxLen]; omega) (by omega) (by have := hb2.size; simp; omega) ?_; intro v' w5 hown' hgrow _; obtain ⟨g', cap', rfl⟩ := ownsRow_succ hown'; have b5 := HO2.out.grown hb2.size hgrow; have HO5 := Lib.hid hown'; clear hown' hgrow)
            go_roundw
            case rel => exact ⟨k + 1, K ++ [x], some ⟨g', 0, none⟩, cap', by omega, by simp, by go_num, Lib.hid (by have := HO5.out; simpa [OwnT] using this), Lib.hid (min_add HX.out (any_none HF.out) hfull HN.out), by simp; omega, Lib.hid (in_snoc IK.out ix.out), hb2.trans b5⟩
            case measure => simp [intOf]; omega
          · go_wp2_with (at_builtin; refine wpList_append_own _ rfl _ _ 22 rfl w.heap.size 49 i0 (.agg #[.int .u32 T0.e, .int .i64 T0.d, .int .u32 T0.a, .int .u32 T0.b, .int .u32 T0.c]) 5 32 Tryz.underlying22 hi hz0 hz1 hz2 rfl (by decide) _ _ _ rfl (HO2.out.alloc _) ⟨_, 0, none⟩ 1 1 (cT x) rfl rfl (cells_new _ _ _) (one_cT x) (by simp [maxLen]; omega) (by omega) (by have := hb2.size; simp; omega) ?_; intro v' w5 hown' hgrow _; obtain ⟨g', cap', rfl⟩ := ownsRow_succ hown'; have b5 := HO2.out.grown hb2.size hgrow; have HO5 := Lib.hid hown'; clear hown' hgrow)
            have E := Lib.hid (min_full HX.out (any_none HF.out) (by omega) HN.out)
            rw [Exit.noGoto_ret]
            go_ret
            exact ⟨some ⟨g', 0, none⟩, cap', by rw [← E.out]; simp, by rw [← E.out]; have := HO5.out; simpa [OwnT] using this, hb2.trans b5⟩
    · have hkk : k = L.length := by omega
      subst hkk
      have E := Lib.hid (min_end HN.out)
      clear HN
      go_wp2_with fail
      rw [Exit.noGoto_ret]
      go_ret
      exact ⟨B, c', by rw [← E.out]; rfl, by rw [← E.out]; exact HO.out, hb0⟩
end Go.Proofs.YtmepiogoofmbbaaGreatDoor.chain
namespace Go.Proofs.YtmepiogoofmbbaaGreatDoor.chain
open Go.ChangeShapes Go.WideShapes Go.ChangeAt Go.RowKit Go.Shelf Go.Sort
open Go.Proofs.YtmepiogoofmbbaaGreatDoor.tm Go.Proofs.YtmepiogoofmbbaaGreatDoor.opened Go.Proofs.YtmepiogoofmbbaaGreatDoor.block Go.Proofs.YtmepiogoofmbbaaGreatDoor.stamp

theorem in_srt (L : List Tm) (h : InL L) : InL (srtL L h) := by
  intro t ht
  unfold srtL at ht
  obtain ⟨x, -, rfl⟩ := List.mem_map.1 ht
  exact x.2
/-- What Make keeps, if nothing is wrong. -/
def makeS (L : List Tm) (h : InL L) : List Tm := minF (srtL L h) []
/-- What Make says is wrong. -/
def makeE (L : List Tm) (h : InL L) : Int := if 4096 < L.length then 7 else if timesE L ≠ 0 then timesE L else if 64 < (makeS L h).length then 7 else 0
/-- What Make answers. -/
def makeV (L : List Tm) (h : InL L) : List Tm := if makeE L h = 0 then makeS L h else []
theorem make_long {L : List Tm} (h : InL L) (hl : 4096 < L.length) : makeE L h = 7 ∧ makeV L h = [] := by
  have e : makeE L h = 7 := by unfold makeE; rw [if_pos hl]
  exact ⟨e, by unfold makeV; rw [if_neg (by rw [e]; decide)]⟩
theorem make_bad {L : List Tm} (h : InL L) (hl : ¬ 4096 < L.length) (ht : timesE L ≠ 0) : makeE L h = timesE L ∧ makeV L h = [] := by
  have e : makeE L h = timesE L := by unfold makeE; rw [if_neg hl, if_pos ht]
  exact ⟨e, by unfold makeV; rw [if_neg (by rw [e]; exact ht)]⟩
theorem make_many {L : List Tm} (h : InL L) (hl : ¬ 4096 < L.length) (ht : timesE L = 0) (hs : 64 < (makeS L h).length) : makeE L h = 7 ∧ makeV L h = [] := by
  have e : makeE L h = 7 := by unfold makeE; rw [if_neg hl, if_neg (by rw [ht]; simp), if_pos hs]
  exact ⟨e, by unfold makeV; rw [if_neg (by rw [e]; decide)]⟩
theorem make_ok {L : List Tm} (h : InL L) (hl : ¬ 4096 < L.length) (ht : timesE L = 0) (hs : ¬ 64 < (makeS L h).length) : makeE L h = 0 ∧ makeV L h = makeS L h := by
  have e : makeE L h = 0 := by unfold makeE; rw [if_neg hl, if_neg (by rw [ht]; simp), if_neg hs]
  exact ⟨e, by unfold makeV; rw [if_pos e]⟩
set_option maxRecDepth 100000 in
theorem make_any (A : Option Addr) (c : Nat) (L : List Tm) (iL : InL L) (mL : L.length ≤ 4611686018427387903) (w : World) (hL : Lt w A L) :
    Calls Tryz.prog 44 #[.slice A L.length c] w fun e W' => ∃ B c', e = .returned (.tuple #[.slice B (makeV L iL).length c', .int .i64 (makeE L iL)]) ∧ Lt W' B (makeV L iL) ∧ Below w.heap.size w W' := by
  have HL := Lib.hid hL
  have CT := Lib.hid (checkTimes_any A c L iL mL)
  by_cases hl : 4096 < L.length
  · obtain ⟨e1, e2⟩ := make_long iL hl
    rw [e1, e2]
    clear e1 e2 hL
    go_enter Tryz.func44, Tryz.ntmps44
    go_wp2
    go_ret2
    exact ⟨none, 0, rfl, Lt.nil _ _, Below.refl _ _⟩
  · by_cases ht : timesE L = 0
    · have SF := Lib.hid (fun (W : World) (hW : Lt W A L) => sortedFunc_any W.heap.size A c L iL (by omega) (W.alloc (.cells #[.slice A L.length c] 22)) (by simp) (Boxed.new W 22 _).cell (hW.below (fresh1 W _)))
      have MI := Lib.hid (fun B c' => minimal_any B c' (srtL L iL) (in_srt L iL) (by rw [srtL_len]; omega))
      rw [srtL_len] at MI
      change Hid (∀ (B : Option Addr) (c' : Nat) (W : World), _ → Calls _ _ _ _ fun e W' => ∃ D d, e = .returned (.slice D (makeS L iL).length d) ∧ OwnT W' W.heap.size (.slice D (makeS L iL).length d) (makeS L iL) ∧ _) at MI
      rw [ht] at CT
      by_cases hs : 64 < (makeS L iL).length
      · obtain ⟨e1, e2⟩ := make_many iL hl ht hs
        rw [e1, e2]
        clear e1 e2 hL ht
        go_enter Tryz.func44, Tryz.ntmps44
        go_wp2_with fail
        refine (CT.out _ HL.out).mono ?_
        rintro e w1 ⟨rfl, b1⟩
        go_wp2_with fail
        refine (values_call _ _ _ _).mono ?_
        rintro e w2 ⟨rfl, rfl⟩
        go_wp2_with fail
        refine (SF.out w1 (HL.out.below b1)).mono ?_
        rintro e w3 ⟨B, c3, rfl, h3, b3⟩
        have h3 := Lib.hid h3
        go_wp2_with fail
        refine (MI.out B c3 w3 h3.out).mono ?_
        rintro e w4 ⟨D, d, rfl, h4, b4⟩
        have h4 := Lib.hid h4
        go_wp2_with fail
        go_ret2
        exact ⟨none, 0, rfl, Lt.nil _ _, b1.trans (((fresh1 w1 (.cells #[.slice A L.length c] 22)).trans ((b3.trans (b4.mono b3.size)).mono (by simp))).mono b1.size)⟩
      · obtain ⟨e1, e2⟩ := make_ok iL hl ht hs
        rw [e1, e2]
        clear e1 e2 hL ht
        go_enter Tryz.func44, Tryz.ntmps44
        go_wp2_with fail
        refine (CT.out _ HL.out).mono ?_
        rintro e w1 ⟨rfl, b1⟩
        go_wp2_with fail
        refine (values_call _ _ _ _).mono ?_
        rintro e w2 ⟨rfl, rfl⟩
        go_wp2_with fail
        refine (SF.out w1 (HL.out.below b1)).mono ?_
        rintro e w3 ⟨B, c3, rfl, h3, b3⟩
        have h3 := Lib.hid h3
        go_wp2_with fail
        refine (MI.out B c3 w3 h3.out).mono ?_
        rintro e w4 ⟨D, d, rfl, h4, b4⟩
        have h4 := Lib.hid h4
        go_wp2_with fail
        go_ret2
        exact ⟨D, d, rfl, h4.out.lies, b1.trans (((fresh1 w1 (.cells #[.slice A L.length c] 22)).trans ((b3.trans (b4.mono b3.size)).mono (by simp))).mono b1.size)⟩
    · obtain ⟨e1, e2⟩ := make_bad iL hl ht
      rw [e1, e2]
      clear e1 e2 hL
      generalize timesE L = t at CT ht ⊢
      go_enter Tryz.func44, Tryz.ntmps44
      go_wp2_with fail
      refine (CT.out _ HL.out).mono ?_
      rintro e w1 ⟨rfl, b1⟩
      go_wp2_with fail
      go_ret2
      exact ⟨none, 0, rfl, Lt.nil _ _, b1⟩
end Go.Proofs.YtmepiogoofmbbaaGreatDoor.chain
namespace Go.Proofs.YtmepiogoofmbbaaGreatDoor.chain
open Go.ChangeShapes Go.WideShapes Go.ChangeAt Go.RowKit Go.Shelf Go.Sort
open Go.Proofs.YtmepiogoofmbbaaGreatDoor.tm Go.Proofs.YtmepiogoofmbbaaGreatDoor.opened Go.Proofs.YtmepiogoofmbbaaGreatDoor.block Go.Proofs.YtmepiogoofmbbaaGreatDoor.stamp

theorem allEq_dec : ∀ L M : List Tm, Lib.allEq eqT L M = decide (L = M)
  | [], [] => by simp [Lib.allEq]
  | x :: r, y :: s => by
    rw [Lib.allEq, allEq_dec r s]
    by_cases h : x = y
    · subst h; rw [eqT_self]; simp
    · rw [eqT_no h]; simp [h]
  | [], _ :: _ => by simp [Lib.allEq]
  | _ :: _, [] => by simp [Lib.allEq]
set_option maxRecDepth 100000 in
theorem equal_none (A B : Option Addr) (c d : Nat) (w : World) : Calls Tryz.prog 45 #[.slice A 0 c, .slice B 0 d] w fun e w' => e = .returned (.bool true) ∧ Below w.heap.size w w' := by
  go_enter Tryz.func45, Tryz.ntmps45
  go_wp2
  refine wp_loop_rounds 1 ?_
  rw [rounds_succ]
  go_wp2
  go_ret
  exact ⟨rfl, Below.refl _ _⟩
set_option maxRecDepth 100000 in
theorem equal_len (A B : Option Addr) (n m c d : Nat) (h : n ≠ m) (_hn : n ≤ 4611686018427387903) (_hm : m ≤ 4611686018427387903) (w : World) : Calls Tryz.prog 45 #[.slice A n c, .slice B m d] w fun e w' => e = .returned (.bool false) ∧ Below w.heap.size w w' := by
  go_enter Tryz.func45, Tryz.ntmps45
  go_wp2
  go_ret
  exact ⟨rfl, Below.refl _ _⟩
theorem equal_any (A B : Option Addr) (c d : Nat) (L M : List Tm) (mL : L.length ≤ 4611686018427387903) (mM : M.length ≤ 4611686018427387903) (w : World) (hL : Lt w A L) (hM : Lt w B M) :
    Calls Tryz.prog 45 #[.slice A L.length c, .slice B M.length d] w fun e w' => e = .returned (.bool (decide (L = M))) ∧ Below w.heap.size w w' := by
  by_cases h : L.length = M.length
  · cases L with
    | nil =>
      have : M = [] := List.eq_nil_of_length_eq_zero (by simpa using h.symm)
      subst this
      exact equal_none A B c d w
    | cons x r =>
      cases M with
      | nil => simp at h
      | cons y s =>
        obtain ⟨b1, o1, hA, -⟩ := hL.at (k := 0) (t := x) rfl
        obtain ⟨b2, o2, hB, -⟩ := hM.at (k := 0) (t := y) rfl
        have K := AnyQ.slices_Equal Tryz.lQ8 5 Tryz.isAgg49 Tryz.sizeOf49 cT (fun _ => rfl) eqT neqT b1 o1 (x :: r).length c b2 o2 (y :: s).length d (x :: r) (y :: s) w (Nat.le_refl _) (Nat.le_refl _) (by omega) (by omega) (fun j hj i v hv => cell_cT hL hA j hj i v hv) (fun j hj i v hv => cell_cT hM hB j hj i v hv)
        rw [List.take_length, List.take_length, allEq_dec] at K
        subst hA hB
        exact K.mono fun e w' ⟨he, q, hw⟩ => ⟨he, by rw [hw]; exact below_drewN (Below.refl _ w) q⟩
  · rw [show decide (L = M) = false by simp only [decide_eq_false_iff_not]; intro e; exact h (by rw [e])]
    exact equal_len A B _ _ c d h mL mM w
/-- What Check says is wrong. -/
def checkE (L : List Tm) (h : InL L) : Int := if 64 < L.length then 7 else if makeE L h ≠ 0 then makeE L h else if makeV L h = L then 0 else 6
theorem keep_len (K : List Tm) (t : Tm) : (keep K t).length ≤ K.length + 1 := by
  unfold keep
  split
  · omega
  · simp
theorem minF_len : ∀ (L K : List Tm), (minF L K).length ≤ K.length + L.length
  | [], K => by simp [minF]
  | t :: r, K => by
    have h1 := keep_len K t
    have h2 := minF_len r (keep K t)
    unfold minF
    split
    · simp; omega
    · simp; omega
theorem makeV_len (L : List Tm) (h : InL L) : (makeV L h).length ≤ L.length := by
  unfold makeV makeS
  split
  · have := minF_len (srtL L h) []
    rw [srtL_len] at this
    simpa using this
  · simp
set_option maxRecDepth 100000 in
theorem check_chain (A : Option Addr) (c : Nat) (L : List Tm) (iL : InL L) (mL : L.length ≤ 4611686018427387903) (w : World) (hL : Lt w A L) :
    Calls Tryz.prog 28 #[.slice A L.length c] w fun e W' => e = .returned (.int .i64 (checkE L iL)) ∧ Below w.heap.size w W' := by
  have HL := Lib.hid hL
  have HM := Lib.hid (make_any A c L iL mL)
  by_cases hl : 64 < L.length
  · rw [show checkE L iL = 7 by unfold checkE; rw [if_pos hl]]
    clear hL
    go_enter Tryz.func28, Tryz.ntmps28
    go_wp2
    go_ret
    exact ⟨rfl, Below.refl _ _⟩
  · by_cases he : makeE L iL = 0
    · have EQ := Lib.hid (fun (B : Option Addr) (c' : Nat) (W : World) => equal_any B A c' c (makeV L iL) L (by have := makeV_len L iL; omega) mL W)
      rw [show checkE L iL = if makeV L iL = L then 0 else 6 by unfold checkE; rw [if_neg hl, if_neg (by rw [he]; simp)]]
      rw [he] at HM
      clear hL he
      generalize makeV L iL = V at HM EQ ⊢
      by_cases hv : V = L
      · rw [if_pos hv]
        rw [show decide (V = L) = true by simpa using hv] at EQ
        clear hv
        go_enter Tryz.func28, Tryz.ntmps28
        go_wp2_with fail
        refine (HM.out _ HL.out).mono ?_
        rintro e w1 ⟨B, c1, rfl, h1, b1⟩
        have h1 := Lib.hid h1
        go_wp2_with fail
        refine (EQ.out B c1 w1 h1.out (HL.out.below b1)).mono ?_
        rintro e w2 ⟨rfl, b2⟩
        go_wp2_with fail
        go_ret
        exact ⟨rfl, b1.trans (b2.mono b1.size)⟩
      · rw [if_neg hv]
        rw [show decide (V = L) = false by simpa using hv] at EQ
        clear hv
        go_enter Tryz.func28, Tryz.ntmps28
        go_wp2_with fail
        refine (HM.out _ HL.out).mono ?_
        rintro e w1 ⟨B, c1, rfl, h1, b1⟩
        have h1 := Lib.hid h1
        go_wp2_with fail
        refine (EQ.out B c1 w1 h1.out (HL.out.below b1)).mono ?_
        rintro e w2 ⟨rfl, b2⟩
        go_wp2_with fail
        go_ret
        exact ⟨rfl, b1.trans (b2.mono b1.size)⟩
    · rw [show checkE L iL = makeE L iL by unfold checkE; rw [if_neg hl, if_pos he]]
      clear hL
      generalize makeE L iL = m at HM he ⊢
      go_enter Tryz.func28, Tryz.ntmps28
      go_wp2_with fail
      refine (HM.out _ HL.out).mono ?_
      rintro e w1 ⟨B, c1, rfl, h1, b1⟩
      have h1 := Lib.hid h1
      go_wp2_with fail
      go_ret
      exact ⟨rfl, b1⟩
end Go.Proofs.YtmepiogoofmbbaaGreatDoor.chain
