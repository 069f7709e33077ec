/-
  slices.Values, slices.AppendSeq and slices.Collect at records.
-/
import Derived.Test.YtkfjgmfokpgcbaaGreatDoorJDe
import Derived.RangeFuncNested
import Derived.RangeFuncBound
import Derived.RangeFuncCalls
import Derived.RangeFuncLeaves
import Derived.RangeFuncBox
import Derived.Shelf.Abstract
import Derived.WalkKit
import Derived.OwnWalkIn
import Derived.TacticsInMore
import Derived.LoopNIn
import Derived.LoopIn
import Derived.Maps.AppendAt
namespace Go.Proofs.YtkfjgmfokpgcbaaGreatDoor.data
open Go.ChangeShapes Go.WideShapes Go.ChangeAt Go.RowKit Go.Shelf
open Go.Proofs.YtkfjgmfokpgcbaaGreatDoor.opened Go.Proofs.YtkfjgmfokpgcbaaGreatDoor.block Go.Proofs.YtkfjgmfokpgcbaaGreatDoor.region
attribute [local go_sem] Oper.semAt_some

theorem take_more {α : Type} [Inhabited α] {M : List α} {k : Nat} (h : k < M.length) : M.take (k + 1) = M.take k ++ [M[k]!] := by
  rw [List.take_add_one, List.getElem?_eq_getElem h, getElem!_pos M k h]; rfl
/-- Each of them lies in its place. -/
def At (w : World) (b off : Nat) (M : List Rc) : Prop := ∀ j, j < M.length → w.cell? ⟨b, off + j * 2, none⟩ = some (.int .i64 M[j]!.k) ∧ w.cell? ⟨b, off + j * 2 + 1, none⟩ = some (.int .i64 M[j]!.v)
theorem At.below {w w' : World} {n₀ b off : Nat} {M : List Rc} (h : At w b off M) (hb : Below n₀ w w') (hl : b < n₀) : At w' b off M := fun j hj =>
  have q := h j hj
  ⟨(hb.cell (p := ⟨b, _, none⟩) hl).trans q.1, (hb.cell (p := ⟨b, _, none⟩) hl).trans q.2⟩
set_option maxRecDepth 100000 in
set_option maxHeartbeats 2000000 in
/-- slices.Values's closure. -/
theorem values1 (F : Fence) (n : Nat) (h7 : F.fn 50) (hro : F.round = none) (hn : 1 ≤ n) (l Bs n₀ b off cap : Nat) (M : List Rc) (hreach : M.length ≤ 4611686018427387903) (hb : b < n₀) (J Jx : List Rc → World → Prop)
    (hY : ∀ pre x W, J pre W → pre.length < M.length → YieldAt F (n - 1) Tryz.prog l #[.agg (cR x).toArray] W fun e W' =>
      (e = .returned (.bool true) ∧ J (pre ++ [x]) W' ∧ Below n₀ W W') ∨ (e = .returned (.bool false) ∧ Jx (pre ++ [x]) W'))
    (W : World) (hn₀ : n₀ ≤ W.heap.size) (hJ : AbidesFrom W.heap.size J) (hBs : W.cell? ⟨Bs, 0, none⟩ = some (.slice (some ⟨b, off, none⟩) M.length cap)) (hc : At W b off M) (h0 : J [] W) :
    CallsIn F n Tryz.prog 50 #[.func (.yield l) #[] #[], .pointer (some ⟨Bs, 0, none⟩)] W fun e W' => (∃ v, e = .returned v) ∧
      ((∃ ys, ys = M ∧ J ys W') ∨ (∃ pre, pre <+: M ∧ Jx pre W')) := by
  refine callsIn_of_wp Tryz.func50 rfl h7 ?_ hro
  simp only [Tryz.ntmps50, List.size_toArray, List.length_cons, List.length_nil, Nat.reduceAdd, Nat.reduceSub, Array.replicate_succ, Array.replicate_zero, List.push_toArray, List.append_toArray, List.nil_append, List.cons_append]
  gi_wp2
  gi_loopw [7] (fun i wr => ∃ k : Nat, k ≤ M.length ∧ i = .int .i64 k ∧ J (M.take k) wr ∧ Below n₀ W wr)
    (fun i _ => M.length - (intOf i).toNat)
  case atStart => exact ⟨0, Nat.zero_le _, rfl, h0, Below.refl _ _⟩
  case round =>
    obtain ⟨k, hk, rfl, hJs, hnx⟩ := hrel
    by_cases hlt : k < M.length
    · obtain ⟨c0, c1⟩ := hc.below hnx hb k hlt
      have hM := Lib.hid (take_more hlt)
      have hx : ∃ x : Rc, M[k]! = x := ⟨_, rfl⟩
      obtain ⟨x, hx⟩ := hx
      rw [hx] at c0 c1 hM
      clear hx
      have hJ2 := hJ _ _ _ none hJs (World.grownBy_alloc wr (.cells #[.int .i64 x.k, .int .i64 x.v] 33) none) (fun r e => by cases e)
      obtain ⟨fn, tmps, assign, body, hy, hR⟩ := hY _ x _ hJ2 (by simp; omega)
      simp only [cR] at hy hR
      gi_wp2
      refine hR.mono ?_
      rintro e W3 (⟨rfl, hJ3, hk3⟩ | ⟨rfl, hJx3⟩)
      · gi_wp2
        go_roundw
        case rel => exact ⟨k + 1, by omega, by go_num, by rw [hM.out]; exact hJ3, (hnx.alloc (by have := hnx.size; omega) _).trans hk3⟩
        case measure => simp [intOf]; omega
      · gi_wp2
        refine bodyPost_ret (results_none rfl _ _ _) rfl ?_
        exact ⟨⟨_, rfl⟩, .inr ⟨_, ⟨M.drop (k + 1), by rw [← hM.out]; exact List.take_append_drop _ _⟩, hJx3⟩⟩
    · obtain rfl : k = M.length := by omega
      gi_wp2
      go_end0
      exact ⟨⟨_, rfl⟩, .inl ⟨_, rfl, by rw [List.take_length] at hJs; exact hJs⟩⟩
set_option maxRecDepth 100000 in
set_option maxHeartbeats 1000000 in
theorem values1_nil (F : Fence) (n : Nat) (h7 : F.fn 50) (hro : F.round = none) (l Bs : Nat) (A : Option Addr) (cap : Nat) (J : List Rc → World → Prop) (W : World) (hBs : W.cell? ⟨Bs, 0, none⟩ = some (.slice A 0 cap)) (h0 : J [] W) :
    CallsIn F n Tryz.prog 50 #[.func (.yield l) #[] #[], .pointer (some ⟨Bs, 0, none⟩)] W fun e W' => (∃ v, e = .returned v) ∧ J [] W' := by
  refine callsIn_of_wp Tryz.func50 rfl h7 ?_ hro
  simp only [Tryz.ntmps50, List.size_toArray, List.length_cons, List.length_nil, Nat.reduceAdd, Nat.reduceSub, Array.replicate_succ, Array.replicate_zero, List.push_toArray, List.append_toArray, List.nil_append, List.cons_append]
  gi_wp2
  gi_loopw [7] (fun i wr => i = .int .i64 0 ∧ J [] wr) (fun _ _ => 0)
  case atStart => exact ⟨rfl, h0⟩
  case round =>
    obtain ⟨rfl, hJs⟩ := hrel
    gi_wp2
    go_end0
    exact ⟨⟨_, rfl⟩, hJs⟩
theorem values_call (A : Option Addr) (len cap : Nat) (w : World) :
    Calls Tryz.prog 37 #[.slice A len cap] w fun e w' => e = .returned (.func (.func 50) #[] #[.pointer (some ⟨w.heap.size, 0, none⟩)]) ∧ w' = w.alloc (.cells #[.slice A len cap] 22) := by
  go_enter Tryz.func37, Tryz.ntmps37
  go_wp2
  go_ret
  exact ⟨rfl, rfl⟩
theorem At.of {w : World} {A : Option Addr} {L : List Rc} {b off : Nat} (hL : Lr w A L) (hA : A = some ⟨b, off, none⟩) : At w b off L := fun j hj => by
  obtain ⟨b', off', hA', -, c⟩ := at_rc hL (show L[j]? = some L[j]! by rw [List.getElem?_eq_getElem hj, getElem!_pos L j hj])
  rw [hA] at hA'
  injection (Option.some.inj hA') with h1 h2
  subst h1 h2
  exact c
theorem Lr.inside {w : World} {A : Option Addr} {L : List Rc} (h : Lr w A L) (hne : L ≠ []) : ∀ b off, A = some ⟨b, off, none⟩ → b < w.heap.size := by
  intro b off e
  rcases h with h | ⟨b', off', hA, hbl, -⟩
  · exact absurd (by simpa using h) hne
  · rw [e] at hA
    injection (Option.some.inj hA) with h1 h2
    rw [h1]; exact hbl
/-- What slices.Values hands back gives just these times, one after another. -/
theorem values_stops (F : Fence) (n : Nat) (h7 : F.fn 50) (hro : F.round = none) (hn : 1 ≤ n) (Bs n₀ : Nat) (A : Option Addr) (cap : Nat) (L : List Rc) (mL : L.length ≤ 4611686018427387903) (w : World) (hBs : Bs < w.heap.size) (hn₀ : n₀ ≤ w.heap.size)
    (hc : w.cell? ⟨Bs, 0, none⟩ = some (.slice A L.length cap)) (hL : Lr w A L) (hA : L ≠ [] → ∀ b off, A = some ⟨b, off, none⟩ → b < n₀) :
    SeqStopsK F n Tryz.prog 50 #[.pointer (some ⟨Bs, 0, none⟩)] (fun x : Rc => #[.agg #[.int .i64 x.k, .int .i64 x.v]]) (Below n₀) (fun ys => ys = L) (fun pre => pre <+: L) L.length w := fun l J Jx W hW hJ _ hY h0 => by
  have hc' := (hW.cell (p := ⟨Bs, 0, none⟩) hBs).trans hc
  cases L with
  | nil => exact (values1_nil F n h7 hro l Bs A cap J W hc' h0).mono fun e W' ⟨he, hj⟩ => ⟨he, .inl ⟨_, rfl, hj⟩⟩
  | cons t r =>
    obtain ⟨b, off, rfl, hb, -⟩ := at_rc hL (k := 0) (p := t) rfl
    have hb0 := hA (by simp) b off rfl
    exact values1 F n h7 hro hn l Bs n₀ b off cap (t :: r) mL hb0 J Jx hY W (Nat.le_trans hn₀ hW.size) hJ hc' ((At.of hL rfl).below hW hb) h0
theorem box_own {β : Type} (B : Nat) (cs : β → Array Value) (t : TypeId) : Own (fun s W => W.heap[B]? = some (.cells (cs s) t (0, 0))) := fun s X Y row h hg hr => (hg.block B (Array.getElem?_eq_some_iff.1 h).1 (fun e => by obtain ⟨o, ho, hc⟩ := hr B e.symm; rw [h] at ho; cases ho; cases hc)).trans h
set_option maxRecDepth 100000 in
set_option maxHeartbeats 2000000 in
theorem appendSeq (F : Fence) (n : Nat) (hf : F.fn 62) (gf : Nat) (lb : Array Value) (hg : F.fn gf) (eg : ∀ args w, (callFunc gf args).run Tryz.prog w = .ok (.enter gf args) w) (hro : F.round = none) (hn : 3 ≤ n) (M : List Rc) (hlen : M.length ≤ 4096) (w : World)
    (hs : SeqStopsK F (n - 1) Tryz.prog gf lb (fun x : Rc => #[.agg #[.int .i64 x.k, .int .i64 x.v]]) (Below w.heap.size) (fun ys => ys = M) (fun pre => pre <+: M) M.length w) :
    CallsIn F n Tryz.prog 62 #[.slice none 0 0, .func (.func gf) #[] lb] w fun e W' => ∃ v, e = .returned v ∧ W'.ownsRow w.heap.size 33 2 v M.length (M.flatMap cR) ∧ (v = .slice none 0 0 ↔ M = []) ∧ Below w.heap.size w W' := by
  have h1 : 1 ≤ n := by omega
  obtain ⟨i0, hi, hz0, hz1, hz2⟩ := infoR_parts
  refine callsIn_of_wp_marks Tryz.func62 rfl hf ?_ hro
  simp only [Tryz.ntmps62, List.size_toArray, List.length_cons, List.length_nil, Nat.reduceAdd, Nat.reduceSub, Array.replicate_succ, Array.replicate_zero, List.push_toArray, List.append_toArray, List.nil_append, List.cons_append]
  gi_wp2
  have bO := Boxed.new w 22 (.slice none 0 0)
  have hB0 : Below w.heap.size w (w.alloc (.cells #[.slice none 0 0] 22)) := (Below.refl _ w).alloc (Nat.le_refl _) _
  refine wpIn_rangeFunc_ownH hro h1 (gf := gf) (lb := lb) rfl hg eg
    hs belowK_t (belowK_b (by simp)) hB0 (fun _ => rfl)
    (fun pre W => (∃ v, Boxed W w.heap.size 22 v ∧ W.ownsRow w.heap.size 33 2 v pre.length (pre.flatMap cR) ∧ (v = .slice none 0 0 ↔ pre = [])) ∧ Below w.heap.size w W)
    (fun _ _ _ => False)
    (OwnFrom.and (Own.from (holdsRow_own w.heap.size w.heap.size 22 33 2 (fun pre => pre.length) (fun pre => pre.flatMap cR) (fun pre v => v = .slice none 0 0 ↔ pre = [])) _) (ownFrom_below (Nat.le_refl _) (by simp)))
    (fun _ _ _ _ _ hs _ _ => hs)
    ⟨⟨_, bO, World.ownsRow_nil _ _ _ _, by simp⟩, hB0⟩
    (fun x a' W => ∃ Bx, w.heap.size < Bx ∧ W.heap[Bx]? = some (.cells #[.int .i64 x.k, .int .i64 x.v] 33 (0, 0)) ∧ a' = { tmps := #[.slice none 0 0, .func (.func gf) #[] lb, .pointer (some ⟨w.heap.size, 0, none⟩), undef, .slice none 0 0, .pointer (some ⟨Bx, 0, none⟩), .func (.func gf) #[] lb, .agg #[.int .i64 x.k, .int .i64 x.v], undef, undef, undef, undef, undef], defers := [] })
    (fun x a' _ X Y row hs hg hr => by obtain ⟨Bx, h1, h2, h3⟩ := hs; exact ⟨Bx, h1, box_own Bx (fun (_ : Unit) => #[.int .i64 x.k, .int .i64 x.v]) 33 () X Y row h2 hg (fun r e => (hr r e).2), h3⟩)
    ?assign ?body ?done ?stop
  case assign =>
    rintro l pre x W K ⟨⟨v, bS1, hrow, hnil⟩, hB1⟩ hK
    gi_wp2
    exact hK _ _ ((KeepsOthers.alloc _ _).from _) ((Below.refl _ W).alloc hB1.size _) ⟨⟨v, bS1.alloc _, hrow.alloc _, hnil⟩, hB1.alloc hB1.size _⟩ ⟨W.heap.size, bS1.lt, World.alloc_heap_new W _, rfl⟩
  case body =>
    rintro l pre x a' W hl ⟨r, hr⟩ ⟨⟨v, hv, hrow, hnil⟩, hB⟩ ⟨Bx, hBx, hX, rfl⟩ hlt
    have hc := hv.cell
    have x0 : W.cell? ⟨Bx, 0, none⟩ = some (.int .i64 x.k) := by simp [World.cell?, hX]
    have x1 : W.cell? ⟨Bx, 1, none⟩ = some (.int .i64 x.v) := by simp [World.cell?, hX]
    gi_wp2_with (gi_at_builtin; refine wpListIn_append_own _ rfl _ _ 22 rfl w.heap.size 33 i0 (.agg #[.int .i64 0, .int .i64 0]) 2 16 Tryz.underlying22 hi hz0 hz1 hz2 rfl (by decide) _ _ _ rfl (hrow.alloc _) ⟨W.heap.size, 0, none⟩ 1 1 (cR x) rfl rfl (cell_newG _ _ _) (cellsR.one x) (by simp [maxLen]; omega) (by omega) (by have := hB.size; simp; omega) ?_; intro v' w1 hown' hgrow _; obtain ⟨g', cap', rfl⟩ := ownsRow_succ hown'; obtain ⟨hv1, hv2, hr2, hk2, hb2⟩ := hv.appended (by decide) hrow hB.size (Nat.le_refl _) hown' hgrow; have hc1 := hv1.cell; have hf1 := hv1.frozen)
    exact ⟨hk2.from _, hb2, ⟨_, hv2, by simpa [cR] using hr2, by simp⟩, hB.trans hb2⟩
  case done =>
    rintro D ys W hD rfl ⟨⟨v, hv, hrow, hnil⟩, hB⟩ hK
    have hc := hv.cell
    gi_wp2
    refine ⟨by simp, .inl ⟨_, _, rfl, run_takeDeferred hK, ?_⟩⟩
    exact ⟨_, results_tmp rfl _ _ _, v, rfl, ownsRow_putObj hrow _ hK rfl, hnil, hB.trans (belowK_b (w := w) (Nat.le_refl _) W D _ _ (by simp at hD; omega) hK rfl rfl)⟩
  case stop =>
    rintro D c pre W _ _ h _
    exact h.elim
set_option maxRecDepth 100000 in
theorem collect_any (Bs : Nat) (A : Option Addr) (cap : Nat) (L : List Rc) (mL : L.length ≤ 4096) (w : World) (hBs : Bs < w.heap.size) (hc : w.cell? ⟨Bs, 0, none⟩ = some (.slice A L.length cap)) (hL : Lr w A L) :
    Calls Tryz.prog 48 #[.func (.func 50) #[] #[.pointer (some ⟨Bs, 0, none⟩)]] w fun e W' => ∃ v, e = .returned v ∧ W'.ownsRow w.heap.size 33 2 v L.length (L.flatMap cR) ∧ Below w.heap.size w W' := by
  have K := callsIn_wide.1 (appendSeq Fence.wide 4 trivial 50 #[.pointer (some ⟨Bs, 0, none⟩)] trivial (enters_of Tryz.func50 (by kernel_rfl) rfl) rfl (by omega) L mL w
    (values_stops Fence.wide 3 trivial rfl (by omega) Bs w.heap.size A cap L (by omega) w hBs (Nat.le_refl _) hc hL (Lr.inside hL)))
  go_enter Tryz.func48, Tryz.ntmps48
  go_wp2_with fail
  refine K.mono ?_
  rintro e w4 ⟨v, rfl, ho, -, b4⟩
  go_wp2_with fail
  go_ret
  exact ⟨v, rfl, ho, b4⟩
end Go.Proofs.YtkfjgmfokpgcbaaGreatDoor.data
