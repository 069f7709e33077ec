/-
  strings.SplitSeq at a comma: its iterator's contract (SeqBox of Sq).
-/
import Derived.Test.YtfjfohkdlikpiaaDoorSq
import Derived.Test.YtfjfohkdlikpiaaDoorDp
import Derived.Test.YtfjfohkdlikpiaaDoorOs
import Derived.Test.YtfjfohkdlikpiaaDoorLayW
import Derived.RangeFuncBox
import Derived.RangeFuncLeaves
import Derived.Shelf.Abstract
import Derived.WalkKit
import Derived.OwnWalkIn
import Derived.TacticsInMore
import Derived.LoopNIn
import Derived.LoopIn
import Derived.Lib.IndexLaws
namespace Go.Proofs.YtfjfohkdlikpiaaDoor.data
open Go.RowKit Go.Shelf Go.Proofs.YtfjfohkdlikpiaaDoor.words Go.Proofs.YtfjfohkdlikpiaaDoor.seqBox Go.Proofs.YtfjfohkdlikpiaaDoor.opened Go.Proofs.YtfjfohkdlikpiaaDoor.block

attribute [local go_sem] Oper.semAt_some

/-- How long the text in a box is. -/
def textIn (b : Nat) (W : World) : Nat := match W.cell? ⟨b, 0, none⟩ with
  | some (.string s) => s.size
  | _ => 0
theorem textIn_eq {b : Nat} {W : World} {s : Bs} (h : W.cell? ⟨b, 0, none⟩ = some (sV s)) : textIn b W = s.length := by
  unfold textIn; rw [h]; simp [ByteArray.size]

theorem comma_at {s : Bs} {k : Nat} (h : Lib.indexByte s 44 = k) : k < s.length ∧ cutsL s = s.take k :: cutsL (s.drop (k + 1)) := by
  obtain ⟨h1, h2⟩ := Lib.indexByte_some h
  have hk : k < s.length := (List.getElem?_eq_some_iff.1 h1).1
  refine ⟨hk, ?_⟩
  have ha : (44 : UInt8) ∉ s.take k := fun hm => by
    obtain ⟨j, hj, he⟩ := List.getElem_of_mem hm
    rw [List.length_take] at hj
    exact h2 j (by omega) (by rw [List.getElem_take] at he; rw [List.getElem?_eq_getElem (by omega), he])
  have hs : s = s.take k ++ 44 :: s.drop (k + 1) := by
    obtain ⟨h3, h4⟩ := List.getElem?_eq_some_iff.1 h1
    conv => lhs; rw [← List.take_append_drop k s, List.drop_eq_getElem_cons hk, h4]
  unfold cutsL
  conv => lhs; rw [hs]
  rw [cutsC_app _ [] _ ha, cutsC, if_pos rfl]
  rfl
theorem comma_not {s : Bs} (h : Lib.indexByte s 44 = -1) : cutsL s = [s] :=
  cuts_no fun hm => by
    obtain ⟨j, hj, he⟩ := List.getElem_of_mem hm
    exact Lib.indexByte_none h j (by rw [List.getElem?_eq_getElem hj, he])

theorem ext_take (r : Bs) (k : Nat) : (⟨r.toArray⟩ : ByteArray).extract 0 k = ⟨(r.take k).toArray⟩ := by
  apply ByteArray.ext; simp
theorem ext_drop (r : Bs) (k : Nat) : (⟨r.toArray⟩ : ByteArray).extract k r.length = ⟨(r.drop k).toArray⟩ := by
  apply ByteArray.ext; simp [List.take_of_length_le]
theorem index1_any (s : Bs) (w : World) : Calls Tryd.prog 25 #[sV s, sV [44]] w fun e w' => e = .returned (.int .i64 (Lib.indexByte s 44)) ∧ w' = w :=
  Any.strings_Index_one Tryd.lays143 ⟨s.toArray⟩ 44 w

set_option maxRecDepth 100000 in
theorem split_box (n : Nat) (hn : 3 ≤ n) (B : Nat) (s : Bs) (hlen : s.length ≤ 100000) (Kp : World → World → Prop) (hKp : ∀ X Y k, Kp X Y → B ≤ k → k < B + 3 → Y.heap[k]? = X.heap[k]?) (w : World)
    (hs : w.cell? ⟨B, 0, none⟩ = some (sV s)) (hf : w.frozen? ⟨B, 0, none⟩ = false) (hp : w.cell? ⟨B + 1, 0, none⟩ = some (sV [44])) (hv : w.cell? ⟨B + 2, 0, none⟩ = some (.int .i64 0)) :
    SeqBox Fence.wide n Tryd.prog 23 #[.pointer (some ⟨B + 1, 0, none⟩), .pointer (some ⟨B, 0, none⟩), .pointer (some ⟨B + 2, 0, none⟩)] B (fun x : Bs => #[sV x]) Kp
      (fun xs => xs = cutsL s) (fun pre => pre <+: cutsL s) (fun pre => pre <+: cutsL s) w := by
  intro l J Jx W hK hJ hJx hY h0
  have cK : ∀ {X Y : World} {i : Nat} {v : Value}, Kp X Y → B ≤ i → i < B + 3 → X.cell? ⟨i, 0, none⟩ = some v → Y.cell? ⟨i, 0, none⟩ = some v := fun h h1 h2 hc =>
    (World.cell?_of_block (a := ⟨_, 0, none⟩) (hKp _ _ _ h h1 h2)).trans hc
  have fK : ∀ {X Y : World}, Kp X Y → X.frozen? ⟨B, 0, none⟩ = false → Y.frozen? ⟨B, 0, none⟩ = false := fun h hc =>
    (World.frozen?_of_block (a := ⟨B, 0, none⟩) (hKp _ _ B h (Nat.le_refl _) (by omega))).trans hc
  have hs1 := cK hK (Nat.le_refl _) (by omega) hs
  have hf1 := fK hK hf
  have hp1 := cK hK (by omega) (by omega) hp
  have hv1 := cK hK (by omega) (by omega) hv
  refine callsIn_of_wp Tryd.func23 rfl trivial ?_ rfl
  simp only [Tryd.ntmps23, List.size_toArray, List.length_cons, List.length_nil, Nat.reduceAdd, Nat.reduceSub, Array.replicate_succ, Array.replicate_zero, List.push_toArray, List.append_toArray, List.nil_append, List.cons_append]
  gi_wp2
  gi_loopw [7] (fun _ wr => ∃ (pre : List Bs) (r : Bs), cutsL s = pre ++ cutsL r ∧ r.length ≤ s.length ∧ wr.cell? ⟨B, 0, none⟩ = some (sV r) ∧ wr.frozen? ⟨B, 0, none⟩ = false ∧ wr.cell? ⟨B + 1, 0, none⟩ = some (sV [44]) ∧ wr.cell? ⟨B + 2, 0, none⟩ = some (.int .i64 0) ∧ J pre wr)
    (fun _ wr => textIn B wr)
  case atStart => exact ⟨[], s, rfl, Nat.le_refl _, hs1, hf1, hp1, hv1, h0⟩
  case round =>
    obtain ⟨pre, r, hc, hl, hsr, hfr, hpr, hvr, hj⟩ := hrel
    have h1n : 1 ≤ n := by omega
    have HI := Lib.hid (index1_any r wr)
    by_cases hneg : Lib.indexByte r 44 < 0
    · have hm1 : Lib.indexByte r 44 = -1 := by have := Lib.indexByte_ge r 44; omega
      have hcr := comma_not hm1
      obtain ⟨fn, tmps, assign, body, hy, hR⟩ := hY pre r wr hj (by rw [hc, hcr]; exact List.prefix_refl _)
      gi_wp2_with (refine ⟨trivial, ?_⟩; gi_at_call 25; refine (callsIn_wide.2 HI.out).mono ?_; rintro e w4 ⟨rfl, rfl⟩; rw [hm1])
      refine hR.mono ?_
      rintro e W3 (⟨rfl, hJ3, hk3⟩ | ⟨rfl, hJx3⟩)
      · gi_wp2
        go_end0
        exact ⟨⟨_, rfl⟩, .inl ⟨_, by rw [hc, hcr], hJ3⟩⟩
      · gi_wp2
        go_end0
        exact ⟨⟨_, rfl⟩, .inr ⟨_, by rw [hc, hcr]; exact List.prefix_refl _, hJx3⟩⟩
    · obtain ⟨k, hk⟩ : ∃ k : Nat, Lib.indexByte r 44 = k := ⟨(Lib.indexByte r 44).toNat, by omega⟩
      obtain ⟨hkl, hcr⟩ := comma_at hk
      clear hneg
      obtain ⟨fn, tmps, assign, body, hy, hR⟩ := hY pre (r.take k) wr hj (by rw [hc, hcr]; exact ⟨_, List.append_assoc _ _ _⟩)
      have hk64 : wrap64 (k : Int) = k := by unfold wrap64; omega
      have hk65 : wrap64 ((k : Int) + 1) = ((k + 1 : Nat) : Int) := by unfold wrap64; omega
      rw [show sV (r.take k) = .string ((⟨r.toArray⟩ : ByteArray).extract 0 k) from by rw [ext_take]] at hy
      gi_wp2_with (refine ⟨trivial, ?_⟩; gi_at_call 25; refine (callsIn_wide.2 HI.out).mono ?_; rintro e w4 ⟨rfl, rfl⟩; rw [hk])
      refine hR.mono ?_
      rintro e W3 (⟨rfl, hJ3, hk3⟩ | ⟨rfl, hJx3⟩)
      · have hs3 := cK hk3 (Nat.le_refl _) (by omega) hsr
        have hf3 := fK hk3 hfr
        have hp3 := cK hk3 (by omega) (by omega) hpr
        have hv3 := cK hk3 (by omega) (by omega) hvr
        have hg := grownBy_setCell' W3 B (.string ((⟨r.toArray⟩ : ByteArray).extract (k + 1) r.length))
        have hsame : (W3.setCell ⟨B, 0, none⟩ (.string ((⟨r.toArray⟩ : ByteArray).extract (k + 1) r.length))).cell? ⟨B, 0, none⟩ = some (sV (r.drop (k + 1))) := by
          rw [World.cell?_setCell_same' _ _ _ (by rw [hs3]; rfl), ext_drop]
        have hfs : (W3.setCell ⟨B, 0, none⟩ (.string ((⟨r.toArray⟩ : ByteArray).extract (k + 1) r.length))).frozen? ⟨B, 0, none⟩ = false := by
          rw [World.frozen?_setCell]; exact hf3
        gi_wp2
        refine ⟨⟨pre ++ [r.take k], r.drop (k + 1), by rw [hc, hcr, List.append_assoc]; rfl, by rw [List.length_drop]; omega, hsame, hfs,
          hg.cell hp3 (by simp), hg.cell hv3 (by simp), hJ _ _ _ (some B) hJ3 hg (fun r e => by cases e; rfl)⟩, ?_⟩
        rw [textIn_eq hsame, textIn_eq hsr, List.length_drop]; omega
      · gi_wp2
        refine bodyPost_ret (results_none rfl _ _ _) rfl ?_
        exact ⟨⟨_, rfl⟩, .inr ⟨_, by rw [hc, hcr]; exact ⟨_, List.append_assoc _ _ _⟩, hJx3⟩⟩

set_option maxRecDepth 100000 in
theorem splitSeq_any (s : Bs) (w : World) : Calls Tryd.prog 10 #[sV s, sV [44]] w fun e w' =>
    e = .returned (.func (.func 23) #[] #[.pointer (some ⟨w.heap.size + 1, 0, none⟩), .pointer (some ⟨w.heap.size, 0, none⟩), .pointer (some ⟨w.heap.size + 2, 0, none⟩)]) ∧
    w' = ((w.alloc (.cells #[sV s] 9)).alloc (.cells #[sV [44]] 9)).alloc (.cells #[.int .i64 0] 3) := by
  have C : ∀ W, Calls Tryd.prog 16 #[sV s, sV [44], .int .i64 0] W fun e w' =>
    e = .returned (.func (.func 23) #[] #[.pointer (some ⟨W.heap.size + 1, 0, none⟩), .pointer (some ⟨W.heap.size, 0, none⟩), .pointer (some ⟨W.heap.size + 2, 0, none⟩)]) ∧
    w' = ((W.alloc (.cells #[sV s] 9)).alloc (.cells #[sV [44]] 9)).alloc (.cells #[.int .i64 0] 3) := by
    intro W
    go_enter Tryd.func16, Tryd.ntmps16
    go_wp2_with fail
    go_ret
    exact ⟨rfl, rfl⟩
  go_enter Tryd.func10, Tryd.ntmps10
  go_wp2_with (go_at_call 16; refine (C _).mono ?_; rintro e w2 ⟨rfl, rfl⟩)
  go_ret
  exact ⟨rfl, rfl⟩
end Go.Proofs.YtfjfohkdlikpiaaDoor.data
