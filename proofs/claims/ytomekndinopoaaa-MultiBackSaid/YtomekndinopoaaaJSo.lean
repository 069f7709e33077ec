/-
  The order of times, as the sort wants it; slices.SortFunc at times.
  slices.Values at times.
-/
import Derived.Test.YtomekndinopoaaaJLay
import Derived.Test.YtomekndinopoaaaJNm
import Derived.RangeFuncNested
import Derived.RangeFuncBound
import Derived.RangeFuncCalls
import Derived.RangeFuncLeaves
import Derived.RangeFuncBox
import Derived.Shelf.Abstract
import Derived.WalkKit
import Derived.OwnWalkIn
import Derived.TacticsInMore
import Derived.LoopNIn
import Derived.LoopIn
namespace Go.Proofs.Ytomekndinopoaaa.chain
open Go.ChangeShapes Go.WideShapes Go.ChangeAt Go.RowKit Go.Shelf Go.Lib Go.Sort
open Go.Proofs.Ytomekndinopoaaa.tm Go.Proofs.Ytomekndinopoaaa.opened Go.Proofs.Ytomekndinopoaaa.block Go.Proofs.Ytomekndinopoaaa.stamp

/-- What the sort is handed: the order of times. -/
def cfT (x y : TI) : Int := cmpT x.1 y.1
theorem lt_num (x y : TI) : ltOf cfT x y = decide (numT x.1 < numT y.1) := by
  unfold ltOf cfT
  rw [decide_eq_decide]
  exact cmpT_num x.2 y.2
theorem swoT : SWO (ltOf cfT) where
  irrefl x := by rw [lt_num]; simp
  trans x y z h1 h2 := by rw [lt_num] at *; simp at *; omega
  ntrans x y z h1 h2 := by rw [lt_num] at *; simp at *; omega
theorem totT (x y : TI) (h : ltOf cfT x y = false) (k : ltOf cfT y x = false) : x = y := by
  rw [lt_num] at h k
  simp at h k
  exact Subtype.ext (num_eq x.2 y.2 (by omega))
theorem oneT (x : TI) : ∀ v ∈ encI x, v.oneCell' = true := by
  intro v hv
  simp [encI, cT] at hv
  rcases hv with rfl | rfl | rfl | rfl | rfl <;> rfl
theorem laysT (blk off size : Nat) (w : World) : CmpLays Try.prog 62 #[] encI 5 cfT blk off size w := fun _ _ _ _ x y => compare_grown x.1 y.1 x.2 y.2 _
/-- The list, sorted. -/
def srt (M : List TI) : List TI := M.mergeSort fun x y => !ltOf cfT y x
theorem sort_any (blk off cap : Nat) (M : List TI) (w : World) (hH : HoldsK encI 5 w blk off M.toArray) (hblk : blk < w.heap.size) (hsz : M.length < 4611686018427387904) :
    Calls Try.prog 78 #[.slice (some ⟨blk, off, none⟩) M.length cap, .func (.func 62) #[] #[]] w fun e w' => e = .returned (.tuple #[]) ∧ ∃ n os, w' = sortWorldK encI 5 w blk off n (srt M).toArray os := by
  have eg : ∀ args w, (callFunc 62 args).run Try.prog w = .ok (.enter 62 args) w := enters_of Try.func62 (by kernel_rfl) rfl
  exact AnyQ.slices_SortFunc_total Try.lF6 5 Try.isAgg33 Try.sizeOf33 encI (fun _ => rfl) oneT cfT swoT 62 #[] blk off cap M.toArray w eg (laysT blk off _ w) hH hblk (by simpa using hsz) totT
theorem sort_none (A : Option Addr) (cap : Nat) (w : World) :
    Calls Try.prog 78 #[.slice A 0 cap, .func (.func 62) #[] #[]] w fun e w' => e = .returned (.tuple #[]) ∧ w' = w :=
  AnyF.slices_SortFunc_none { Try.lF6 with } A cap _ w
end Go.Proofs.Ytomekndinopoaaa.chain
namespace Go.Proofs.Ytomekndinopoaaa.chain
open Go.ChangeShapes Go.WideShapes Go.ChangeAt Go.RowKit Go.Shelf
open Go.Proofs.Ytomekndinopoaaa.tm Go.Proofs.Ytomekndinopoaaa.opened Go.Proofs.Ytomekndinopoaaa.block Go.Proofs.Ytomekndinopoaaa.stamp
attribute [local go_sem] Oper.semAt_some

theorem take_more {α : Type} [Inhabited α] {M : List α} {k : Nat} (h : k < M.length) : M.take (k + 1) = M.take k ++ [M[k]!] := by
  rw [List.take_add_one, List.getElem?_eq_getElem h, getElem!_pos M k h]; rfl
/-- Each of them lies in its place. -/
def At (w : World) (b off : Nat) (M : List TI) : Prop := ∀ j, j < M.length → w.cell? ⟨b, off + j * 5, none⟩ = some (.int .u32 M[j]!.1.e) ∧ w.cell? ⟨b, off + j * 5 + 1, none⟩ = some (.int .i64 M[j]!.1.d) ∧ w.cell? ⟨b, off + j * 5 + 2, none⟩ = some (.int .u32 M[j]!.1.a) ∧ w.cell? ⟨b, off + j * 5 + 3, none⟩ = some (.int .u32 M[j]!.1.b) ∧ w.cell? ⟨b, off + j * 5 + 4, none⟩ = some (.int .u32 M[j]!.1.c)
theorem At.below {w w' : World} {n₀ b off : Nat} {M : List TI} (h : At w b off M) (hb : Below n₀ w w') (hl : b < n₀) : At w' b off M := fun j hj =>
  have q := h j hj
  ⟨(hb.cell (p := ⟨b, _, none⟩) hl).trans q.1, (hb.cell (p := ⟨b, _, none⟩) hl).trans q.2.1, (hb.cell (p := ⟨b, _, none⟩) hl).trans q.2.2.1, (hb.cell (p := ⟨b, _, none⟩) hl).trans q.2.2.2.1, (hb.cell (p := ⟨b, _, none⟩) hl).trans q.2.2.2.2⟩
set_option maxRecDepth 100000 in
set_option maxHeartbeats 2000000 in
/-- slices.Values's closure. -/
theorem values1 (F : Fence) (n : Nat) (h7 : F.fn 100) (hro : F.round = none) (hn : 1 ≤ n) (l Bs n₀ b off cap : Nat) (M : List TI) (hreach : M.length ≤ 4611686018427387903) (hb : b < n₀) (J Jx : List TI → World → Prop)
    (hY : ∀ pre x W, J pre W → pre.length < M.length → YieldAt F (n - 1) Try.prog l #[.agg (encI x).toArray] W fun e W' =>
      (e = .returned (.bool true) ∧ J (pre ++ [x]) W' ∧ Below n₀ W W') ∨ (e = .returned (.bool false) ∧ Jx (pre ++ [x]) W'))
    (W : World) (hn₀ : n₀ ≤ W.heap.size) (hJ : AbidesFrom W.heap.size J) (hBs : W.cell? ⟨Bs, 0, none⟩ = some (.slice (some ⟨b, off, none⟩) M.length cap)) (hc : At W b off M) (h0 : J [] W) :
    CallsIn F n Try.prog 100 #[.func (.yield l) #[] #[], .pointer (some ⟨Bs, 0, none⟩)] W fun e W' => (∃ v, e = .returned v) ∧
      ((∃ ys, ys = M ∧ J ys W') ∨ (∃ pre, pre <+: M ∧ Jx pre W')) := by
  refine callsIn_of_wp Try.func100 rfl h7 ?_ hro
  simp only [Try.ntmps100, List.size_toArray, List.length_cons, List.length_nil, Nat.reduceAdd, Nat.reduceSub, Array.replicate_succ, Array.replicate_zero, List.push_toArray, List.append_toArray, List.nil_append, List.cons_append]
  gi_wp2
  gi_loopw [7] (fun i wr => ∃ k : Nat, k ≤ M.length ∧ i = .int .i64 k ∧ J (M.take k) wr ∧ Below n₀ W wr)
    (fun i _ => M.length - (intOf i).toNat)
  case atStart => exact ⟨0, Nat.zero_le _, rfl, h0, Below.refl _ _⟩
  case round =>
    obtain ⟨k, hk, rfl, hJs, hnx⟩ := hrel
    by_cases hlt : k < M.length
    · obtain ⟨c0, c1, c2, c3, c4⟩ := hc.below hnx hb k hlt
      have hM := Lib.hid (take_more hlt)
      have hx : ∃ x : TI, M[k]! = x := ⟨_, rfl⟩
      obtain ⟨x, hx⟩ := hx
      rw [hx] at c0 c1 c2 c3 c4 hM
      clear hx
      have hJ2 := hJ _ _ _ none hJs (World.grownBy_alloc wr (.cells #[.int .u32 x.1.e, .int .i64 x.1.d, .int .u32 x.1.a, .int .u32 x.1.b, .int .u32 x.1.c] 33) none) (fun r e => by cases e)
      obtain ⟨fn, tmps, assign, body, hy, hR⟩ := hY _ x _ hJ2 (by simp; omega)
      simp only [encI, cT] at hy hR
      gi_wp2
      refine hR.mono ?_
      rintro e W3 (⟨rfl, hJ3, hk3⟩ | ⟨rfl, hJx3⟩)
      · gi_wp2
        go_roundw
        case rel => exact ⟨k + 1, by omega, by go_num, by rw [hM.out]; exact hJ3, (hnx.alloc (by have := hnx.size; omega) _).trans hk3⟩
        case measure => simp [intOf]; omega
      · gi_wp2
        refine bodyPost_ret (results_none rfl _ _ _) rfl ?_
        exact ⟨⟨_, rfl⟩, .inr ⟨_, ⟨M.drop (k + 1), by rw [← hM.out]; exact List.take_append_drop _ _⟩, hJx3⟩⟩
    · obtain rfl : k = M.length := by omega
      gi_wp2
      go_end0
      exact ⟨⟨_, rfl⟩, .inl ⟨_, rfl, by rw [List.take_length] at hJs; exact hJs⟩⟩
end Go.Proofs.Ytomekndinopoaaa.chain
