/-
  A loop over an iterator that keeps boxes of its own (splitSeq$1 stores the rest of the text): the iterator's contract, whose invariant also stays when the iterator's own block b turns, and the law of the loop over it. No number of a program.
  strings.SplitSeq at a comma: its iterator's contract (SeqBox of Sq).
  The contract of data.Parse.
-/
import Derived.RangeFuncNested
import Derived.RangeFuncBound
import Derived.RangeFuncCalls
import Derived.RangeFuncLeaves
import Derived.Below
import Derived.Test.YtkfjgmfokpgcbaaGreatDoorJNw
import Derived.Test.YtkfjgmfokpgcbaaGreatDoorJWm
import Derived.Test.YtkfjgmfokpgcbaaGreatDoorJLayW
import Derived.RangeFuncBox
import Derived.Shelf.Abstract
import Derived.WalkKit
import Derived.OwnWalkIn
import Derived.TacticsInMore
import Derived.LoopNIn
import Derived.LoopIn
import Derived.Lib.IndexLaws
import Derived.Test.YtkfjgmfokpgcbaaGreatDoorJWq
import Derived.Test.YtkfjgmfokpgcbaaGreatDoorJDg
import Derived.Test.YtkfjgmfokpgcbaaGreatDoorJDe
import Derived.Test.YtkfjgmfokpgcbaaGreatDoorJOpen
import Derived.Test.YtkfjgmfokpgcbaaGreatDoorJBlock
import Derived.BigFrameIn
namespace Go.Proofs.YtkfjgmfokpgcbaaGreatDoor.seqBox
open Go Go.RowKit

variable {F : Fence} {n : Nat} {P : Program}

/-- A step of the iterator's own: new blocks, and block b. -/
def Lets {β : Type} (b : Nat) (J : β → World → Prop) : Prop :=
  ∀ s A B row, J s A → A.grownBy B row → (∀ r, row = some r → r = b) → J s B

/-- What the loop's own book-keeping and the iterator may turn: the caller's invariant stays. -/
def Rests {β : Type} (b B0 : Nat) (I : β → World → Prop) : Prop :=
  ∀ s A B row, I s A → A.grownBy B row → (∀ r, row = some r → r = b ∨ (B0 ≤ r ∧ ∃ o : Obj, A.heap[r]? = some o ∧ o.isCells = false)) → I s B

/-- The contract of an iterator that turns its own block b. -/
def SeqBox {α : Type} (F : Fence) (n : Nat) (P : Program) (g : Nat) (lb : Array Value) (b : Nat) (encs : α → Array Value) (Kp : World → World → Prop) (S Sp : List α → Prop) (Ok : List α → Prop) (w : World) : Prop :=
  ∀ (l : Nat) (J Jx : List α → World → Prop) (W : World), Kp w W → Lets b J → Lets b Jx →
    (∀ pre x W1, J pre W1 → Ok (pre ++ [x]) → YieldAt F (n - 1) P l (encs x) W1 fun e W' =>
      (e = .returned (.bool true) ∧ J (pre ++ [x]) W' ∧ Kp W1 W') ∨ (e = .returned (.bool false) ∧ Jx (pre ++ [x]) W')) →
    J [] W →
    CallsIn F n P g (#[.func (.yield l) #[] #[]] ++ lb) W fun e W' => (∃ v, e = .returned v) ∧ ((∃ xs, S xs ∧ J xs W') ∨ (∃ pre, Sp pre ∧ Jx pre W'))

/-- Where a body may leave from: its jump. -/
def jumpOf : Exit → Option (Option Code)
  | .normal => some none
  | .ret => some (some .ret)
  | .exit id => some (some (.exit id))
  | .goto t => some (some (.goto t))
  | _ => none

theorem wpIn_rangeBox {α : Type} {g : Operand} {ps : Array Tmp} {assign body : Code} {Q : Exit → Act → World → Prop} {a : Act} {w : World}
    (hro : F.round = none) (h1 : 1 ≤ n) {gf : Nat} {lb : Array Value} (hg : a.eval g = .func (.func gf) #[] lb) (hFg : F.fn gf) (eg : ∀ args w, (callFunc gf args).run P w = .ok (.enter gf args) w)
    {b : Nat} (hbw : b < w.heap.size) {encs : α → Array Value} {Kp : World → World → Prop} {S Sp : List α → Prop} {Ok : List α → Prop} {w0 : World} (hseq : SeqBox F (n - 1) P gf lb b encs Kp S Sp Ok w0)
    (hKt : ∀ {A B C : World}, Kp A B → Kp B C → Kp A C) (hKg : ∀ (A B : World) (row : Option Nat), w.heap.size ≤ A.heap.size → A.grownBy B row → (∀ r, row = some r → w.heap.size ≤ r) → Kp A B) (hK0 : Kp w0 w) (hps : ∀ x, (encs x).size = ps.size)
    (I : List α → World → Prop) (Ix : Code → List α → World → Prop) (hI : Rests b w.heap.size I) (hIx : ∀ c, Rests b w.heap.size (Ix c)) (h0 : I [] w) (a₁ : α → Act)
    (hassign : ∀ (l : Nat) (x : α) (W : World) (K : Act → World → Prop), K (a₁ x) W →
      assign.wpIn (F.inRound l) (n - 1 - 1) P (Exit.then K (fun _ _ _ => False)) { tmps := (ps.zip (encs x)).foldl (fun t (p, v) => t.setIfInBounds p v) a.tmps, defers := [] } W)
    (hbody : ∀ (l : Nat) (pre : List α) (x : α) (W : World), I pre W → Ok (pre ++ [x]) → body.wpIn (F.inRound l) (n - 1 - 1) P (ownPostG w.heap.size Kp I Ix (pre ++ [x]) W) (a₁ x) W)
    (hdone : ∀ (D : Nat) (xs : List α) (W : World), w.heap.size ≤ D → S xs → I xs W → W.heap[D]? = some (.deferred (some [])) → Q .normal { a with defers := { target := .collected D, args := #[] } :: a.defers } W)
    (hstop : ∀ (D : Nat) (c : Code) (pre : List α) (W : World), w.heap.size ≤ D → Sp pre → Ix c pre W → W.heap[D]? = some (.deferred (some [])) → c.wpIn F n P Q { a with defers := { target := .collected D, args := #[] } :: a.defers } W) :
    (Code.rangeFunc g ps assign body).wpIn F n P Q a w := by
  refine wpIn_rangeFunc fun fn hfn => ?_
  rw [hro]
  obtain ⟨rec, hrec⟩ : ∃ rec : LoopState → Option Code → Loop, rec = fun st pe => { state := st, pending := pe, fn, tmps := a.tmps, params := ps, assign, body, defers := w.heap.size } := ⟨_, rfl⟩
  have hg1 := World.grownBy_alloc w (.deferred (some [])) none
  have hg2 := World.grownBy_alloc (w.alloc (.deferred (some []))) (.loop (rec .ready none)) none
  have hL := World.alloc_heap_new (w.alloc (.deferred (some []))) (.loop (rec .ready none))
  rw [World.size_alloc] at hL
  have hD := (hg2.block w.heap.size (by simp) (by simp)).trans (World.alloc_heap_new w (.deferred (some [])))
  have hK1 : Kp w0 ((w.alloc (.deferred (some []))).alloc (.loop (rec .ready none))) :=
    hKt hK0 (hKt (hKg _ _ none (Nat.le_refl _) hg1 (fun r e => by cases e)) (hKg _ _ none (by simp) hg2 (fun r e => by cases e)))
  have hI1 := hI _ _ _ none (hI _ _ _ none h0 hg1 (fun r e => by cases e)) hg2 (fun r e => by cases e)
  have hsz : w.heap.size + 1 < ((w.alloc (.deferred (some []))).alloc (.loop (rec .ready none))).heap.size := by simp
  have he : (Instr.enterLoop fn a.tmps ps assign body none).run P w = .ok (w.heap.size + 1, [{ target := .collected w.heap.size, args := #[] }]) ((w.alloc (.deferred (some []))).alloc (.loop (rec .ready none))) := by
    rw [hrec]; exact run_enterLoop_outer _ _ _ _ _
  generalize (w.alloc (.deferred (some []))).alloc (.loop (rec .ready none)) = W1 at he hL hD hK1 hI1 hsz
  refine ⟨w.heap.size + 1, _, W1, { target := .fn (.func gf) lb, args := #[.func (.yield (w.heap.size + 1)) #[] #[]] }, W1, gf, #[.func (.yield (w.heap.size + 1)) #[] #[]] ++ lb, W1, he, ?_, ?_, ?_, fun _ => h1, ?_⟩
  · simp only [resolve, hg]
    simp [go_sem]
  · intro f' hf'; simp [Target.leads] at hf'; subst hf'; exact hFg
  · simp [invoke, go_sem, eg]
  -- the caller's invariant with the record and the block beside it
  obtain ⟨J, hJ⟩ : ∃ J : (World → Prop) → LoopState → Option Code → World → Prop, J = fun T st pe W => T W ∧ W.heap[w.heap.size + 1]? = some (.loop (rec st pe)) ∧ W.heap[w.heap.size]? = some (.deferred (some [])) := ⟨_, rfl⟩
  have same : ∀ {A B : World} {row : Option Nat} {k : Nat} {o : Obj}, A.grownBy B row → (∀ r, row = some r → r = b) → w.heap.size ≤ k → A.heap[k]? = some o → B.heap[k]? = some o := fun hg hr hk ho =>
    (hg.block _ (Array.getElem?_eq_some_iff.1 ho).1 (fun e => by have := hr _ e.symm; omega)).trans ho
  refine (hseq (w.heap.size + 1) (fun pre W => J (I pre) .ready none W) (fun pre W => ∃ c, J (Ix c pre) .done (some c) W) W1 hK1 ?_ ?_ ?_ ?_).mono ?_
  · rintro s A B row hs hg' hr
    rw [hJ] at hs ⊢
    exact ⟨hI s A B row hs.1 hg' (fun r e => .inl (hr r e)), same hg' hr (by omega) hs.2.1, same hg' hr (Nat.le_refl _) hs.2.2⟩
  · rintro s A B row ⟨c, hs⟩ hg' hr
    rw [hJ] at hs
    refine ⟨c, ?_⟩
    rw [hJ]
    exact ⟨hIx c s A B row hs.1 hg' (fun r e => .inl (hr r e)), same hg' hr (by omega) hs.2.1, same hg' hr (Nat.le_refl _) hs.2.2⟩
  · -- one round
    intro pre x W hs hlen
    rw [hJ] at hs
    obtain ⟨hi, hl, hk⟩ := hs
    have hlt : w.heap.size + 1 < W.heap.size := (Array.getElem?_eq_some_iff.1 hl).1
    have hy := run_yield (P := P) (args := encs x) hl (by rw [hrec]; exact hps x)
    rw [hrec] at hy
    refine ⟨fn, _, assign, body, hy, roundIn_of_wpIn hfn (hassign _ x W _ ⟨_, run_beginRound hl (by rw [hrec]), ?_⟩)⟩
    have turn : ∀ {A : World} {st : LoopState} {pe : Option Code} (o : Obj) {T : World → Prop}, (∀ B row, T A → A.grownBy B row → (∀ r, row = some r → r = b ∨ (w.heap.size ≤ r ∧ ∃ o : Obj, A.heap[r]? = some o ∧ o.isCells = false)) → T B) → T A → A.heap[w.heap.size + 1]? = some (.loop (rec st pe)) → T (A.putObj (w.heap.size + 1) o) := fun o T h ha hl' =>
      h _ (some (w.heap.size + 1)) ha (grownBy_putObj' _ _ o) (fun r e => by cases e; exact .inr ⟨by omega, _, hl', rfl⟩)
    have hl2 : (W.putObj (w.heap.size + 1) (.loop { rec .ready none with state := .busy })).heap[w.heap.size + 1]? = some (.loop (rec .busy none)) := by
      rw [World.putObj_heap_same hlt, hrec]
    have hk2 : (W.putObj (w.heap.size + 1) (.loop { rec .ready none with state := .busy })).heap[w.heap.size]? = some (.deferred (some [])) := (World.putObj_heap_other (by omega)).trans hk
    have hw2 : Kp W (W.putObj (w.heap.size + 1) (.loop { rec .ready none with state := .busy })) := hKg _ _ (some (w.heap.size + 1)) (by omega) (grownBy_putObj' _ _ _) (fun r e => by cases e; omega)
    have hi2 := turn (.loop { rec .ready none with state := .busy }) (fun B row h => hI pre W B row h) hi hl
    have hsz2 : (W.putObj (w.heap.size + 1) (.loop { rec .ready none with state := .busy })).heap.size = W.heap.size := by simp [World.putObj]
    generalize hW2 : W.putObj (w.heap.size + 1) (.loop { rec .ready none with state := .busy }) = W2 at hl2 hk2 hw2 hi2 hsz2
    have hb := hbody (w.heap.size + 1) pre x W2 hi2 hlen
    have hfin : ∀ (jump : Option Code) (W3 : World) (T : World → Prop), KeepsFrom w.heap.size W2 W3 → (∀ B row, T W3 → W3.grownBy B row → (∀ r, row = some r → r = b ∨ (w.heap.size ≤ r ∧ ∃ o : Obj, W3.heap[r]? = some o ∧ o.isCells = false)) → T B) → T W3 →
        (Instr.endRound (w.heap.size + 1) jump).run P W3 = .ok (.bool jump.isNone) (W3.putObj (w.heap.size + 1) (.loop (rec (if jump.isNone then .ready else .done) jump))) ∧
        J T (if jump.isNone then .ready else .done) jump (W3.putObj (w.heap.size + 1) (.loop (rec (if jump.isNone then .ready else .done) jump))) ∧
        w.heap.size ≤ W3.heap.size := fun jump W3 T hk3 hT ht => by
      have hl3 := hk3.same _ _ (by omega) hl2 rfl
      have hk4 := hk3.same _ _ (Nat.le_refl _) hk2 rfl
      have hr := run_endRound (P := P) jump hl3
      have hlt3 : w.heap.size + 1 < W3.heap.size := (Array.getElem?_eq_some_iff.1 hl3).1
      refine ⟨by rw [hr, hrec], ?_, by omega⟩
      rw [hJ]
      exact ⟨turn _ hT ht hl3, World.putObj_heap_same hlt3, (World.putObj_heap_other (by omega)).trans hk4⟩
    refine wpIn_mono hb ?_
    rintro e a3 W3 hp
    cases e with
    | normal =>
      obtain ⟨hk3, hkp3, hi3⟩ := hp
      obtain ⟨hr, hj, hz⟩ := hfin none W3 (I (pre ++ [x])) hk3 (fun B row h => hI _ W3 B row h) hi3
      exact ⟨_, _, hr, .inl ⟨rfl, hj, hKt (hKt hw2 hkp3) (hKg _ _ (some (w.heap.size + 1)) hz (grownBy_putObj' _ _ _) (fun r e => by cases e; omega))⟩⟩
    | ret =>
      obtain ⟨hr, hj, hz⟩ := hfin (some .ret) W3 (Ix .ret (pre ++ [x])) hp.1 (fun B row h => hIx _ _ W3 B row h) hp.2
      exact ⟨_, _, hr, .inr ⟨rfl, .ret, hj⟩⟩
    | exit id =>
      obtain ⟨hr, hj, hz⟩ := hfin (some (.exit id)) W3 (Ix (.exit id) (pre ++ [x])) hp.1 (fun B row h => hIx _ _ W3 B row h) hp.2
      exact ⟨_, _, hr, .inr ⟨rfl, .exit id, hj⟩⟩
    | goto t =>
      obtain ⟨hr, hj, hz⟩ := hfin (some (.goto t)) W3 (Ix (.goto t) (pre ++ [x])) hp.1 (fun B row h => hIx _ _ W3 B row h) hp.2
      exact ⟨_, _, hr, .inr ⟨rfl, .goto t, hj⟩⟩
    | panic ch => exact hp.elim
    | outgrown => exact hp.elim
  · rw [hJ]; exact ⟨hI1, hL, hD⟩
  · -- behind the iterator
    have last : ∀ {T : World → Prop} {st : LoopState} {pe : Option Code} {A : World}, (∀ B row, T A → A.grownBy B row → (∀ r, row = some r → r = b ∨ (w.heap.size ≤ r ∧ ∃ o : Obj, A.heap[r]? = some o ∧ o.isCells = false)) → T B) → J T st pe A → st ≠ .busy →
        ∃ A', (Instr.endLoop (w.heap.size + 1)).run P A = .ok pe A' ∧ T A' ∧ A'.heap[w.heap.size]? = some (.deferred (some [])) := fun {T st pe A} hT hj hb => by
      rw [hJ] at hj
      obtain ⟨ht, hl, hk⟩ := hj
      have := run_endLoop (P := P) hl (by rw [hrec]; exact hb)
      refine ⟨_, by rw [this, hrec], ?_, (World.putObj_heap_other (by omega)).trans hk⟩
      exact hT _ (some (w.heap.size + 1)) ht (grownBy_putObj' _ _ _) (fun r e => by cases e; exact .inr ⟨by omega, _, hl, rfl⟩)
    rintro e W2 ⟨⟨v, rfl⟩, (⟨xs, hS, hj⟩ | ⟨pre, hSp, c, hj⟩)⟩
    · obtain ⟨A', hr, hi, hk⟩ := last (fun B row h => hI xs W2 B row h) hj (by simp)
      exact ⟨none, A', hr, hdone _ xs _ (Nat.le_refl _) hS hi hk⟩
    · obtain ⟨A', hr, hi, hk⟩ := last (fun B row h => hIx c pre W2 B row h) hj (by simp)
      exact ⟨some c, A', hr, hstop _ c pre _ (Nat.le_refl _) hSp hi hk⟩
end Go.Proofs.YtkfjgmfokpgcbaaGreatDoor.seqBox
namespace Go.Proofs.YtkfjgmfokpgcbaaGreatDoor.data
open Go.RowKit Go.Shelf Go.Proofs.YtkfjgmfokpgcbaaGreatDoor.words Go.Proofs.YtkfjgmfokpgcbaaGreatDoor.seqBox Go.Proofs.YtkfjgmfokpgcbaaGreatDoor.opened Go.Proofs.YtkfjgmfokpgcbaaGreatDoor.block

attribute [local go_sem] Oper.semAt_some

/-- How long the text in a box is. -/
def textIn (b : Nat) (W : World) : Nat := match W.cell? ⟨b, 0, none⟩ with
  | some (.string s) => s.size
  | _ => 0
theorem textIn_eq {b : Nat} {W : World} {s : Bs} (h : W.cell? ⟨b, 0, none⟩ = some (sV s)) : textIn b W = s.length := by
  unfold textIn; rw [h]; simp [ByteArray.size]

theorem comma_at {s : Bs} {k : Nat} (h : Lib.indexByte s 44 = k) : k < s.length ∧ cutsL s = s.take k :: cutsL (s.drop (k + 1)) := by
  obtain ⟨h1, h2⟩ := Lib.indexByte_some h
  have hk : k < s.length := (List.getElem?_eq_some_iff.1 h1).1
  refine ⟨hk, ?_⟩
  have ha : (44 : UInt8) ∉ s.take k := fun hm => by
    obtain ⟨j, hj, he⟩ := List.getElem_of_mem hm
    rw [List.length_take] at hj
    exact h2 j (by omega) (by rw [List.getElem_take] at he; rw [List.getElem?_eq_getElem (by omega), he])
  have hs : s = s.take k ++ 44 :: s.drop (k + 1) := by
    obtain ⟨h3, h4⟩ := List.getElem?_eq_some_iff.1 h1
    conv => lhs; rw [← List.take_append_drop k s, List.drop_eq_getElem_cons hk, h4]
  unfold cutsL
  conv => lhs; rw [hs]
  rw [cutsC_app _ [] _ ha, cutsC, if_pos rfl]
  rfl
theorem comma_not {s : Bs} (h : Lib.indexByte s 44 = -1) : cutsL s = [s] :=
  cuts_no fun hm => by
    obtain ⟨j, hj, he⟩ := List.getElem_of_mem hm
    exact Lib.indexByte_none h j (by rw [List.getElem?_eq_getElem hj, he])

theorem ext_take (r : Bs) (k : Nat) : (⟨r.toArray⟩ : ByteArray).extract 0 k = ⟨(r.take k).toArray⟩ := by
  apply ByteArray.ext; simp
theorem ext_drop (r : Bs) (k : Nat) : (⟨r.toArray⟩ : ByteArray).extract k r.length = ⟨(r.drop k).toArray⟩ := by
  apply ByteArray.ext; simp [List.take_of_length_le]
theorem index1_any (s : Bs) (w : World) : Calls Tryz.prog 68 #[sV s, sV [44]] w fun e w' => e = .returned (.int .i64 (Lib.indexByte s 44)) ∧ w' = w :=
  Any.strings_Index_one Tryz.lays143 ⟨s.toArray⟩ 44 w

set_option maxRecDepth 100000 in
theorem split_box (n : Nat) (hn : 3 ≤ n) (B : Nat) (s : Bs) (hlen : s.length ≤ 100000) (Kp : World → World → Prop) (hKp : ∀ X Y k, Kp X Y → B ≤ k → k < B + 3 → Y.heap[k]? = X.heap[k]?) (w : World)
    (hs : w.cell? ⟨B, 0, none⟩ = some (sV s)) (hf : w.frozen? ⟨B, 0, none⟩ = false) (hp : w.cell? ⟨B + 1, 0, none⟩ = some (sV [44])) (hv : w.cell? ⟨B + 2, 0, none⟩ = some (.int .i64 0)) :
    SeqBox Fence.wide n Tryz.prog 66 #[.pointer (some ⟨B + 1, 0, none⟩), .pointer (some ⟨B, 0, none⟩), .pointer (some ⟨B + 2, 0, none⟩)] B (fun x : Bs => #[sV x]) Kp
      (fun xs => xs = cutsL s) (fun pre => pre <+: cutsL s) (fun pre => pre <+: cutsL s) w := by
  intro l J Jx W hK hJ hJx hY h0
  have cK : ∀ {X Y : World} {i : Nat} {v : Value}, Kp X Y → B ≤ i → i < B + 3 → X.cell? ⟨i, 0, none⟩ = some v → Y.cell? ⟨i, 0, none⟩ = some v := fun h h1 h2 hc =>
    (World.cell?_of_block (a := ⟨_, 0, none⟩) (hKp _ _ _ h h1 h2)).trans hc
  have fK : ∀ {X Y : World}, Kp X Y → X.frozen? ⟨B, 0, none⟩ = false → Y.frozen? ⟨B, 0, none⟩ = false := fun h hc =>
    (World.frozen?_of_block (a := ⟨B, 0, none⟩) (hKp _ _ B h (Nat.le_refl _) (by omega))).trans hc
  have hs1 := cK hK (Nat.le_refl _) (by omega) hs
  have hf1 := fK hK hf
  have hp1 := cK hK (by omega) (by omega) hp
  have hv1 := cK hK (by omega) (by omega) hv
  refine callsIn_of_wp Tryz.func66 rfl trivial ?_ rfl
  simp only [Tryz.ntmps66, List.size_toArray, List.length_cons, List.length_nil, Nat.reduceAdd, Nat.reduceSub, Array.replicate_succ, Array.replicate_zero, List.push_toArray, List.append_toArray, List.nil_append, List.cons_append]
  gi_wp2
  gi_loopw [7] (fun _ wr => ∃ (pre : List Bs) (r : Bs), cutsL s = pre ++ cutsL r ∧ r.length ≤ s.length ∧ wr.cell? ⟨B, 0, none⟩ = some (sV r) ∧ wr.frozen? ⟨B, 0, none⟩ = false ∧ wr.cell? ⟨B + 1, 0, none⟩ = some (sV [44]) ∧ wr.cell? ⟨B + 2, 0, none⟩ = some (.int .i64 0) ∧ J pre wr)
    (fun _ wr => textIn B wr)
  case atStart => exact ⟨[], s, rfl, Nat.le_refl _, hs1, hf1, hp1, hv1, h0⟩
  case round =>
    obtain ⟨pre, r, hc, hl, hsr, hfr, hpr, hvr, hj⟩ := hrel
    have h1n : 1 ≤ n := by omega
    have HI := Lib.hid (index1_any r wr)
    by_cases hneg : Lib.indexByte r 44 < 0
    · have hm1 : Lib.indexByte r 44 = -1 := by have := Lib.indexByte_ge r 44; omega
      have hcr := comma_not hm1
      obtain ⟨fn, tmps, assign, body, hy, hR⟩ := hY pre r wr hj (by rw [hc, hcr]; exact List.prefix_refl _)
      gi_wp2_with (refine ⟨trivial, ?_⟩; gi_at_call 68; refine (callsIn_wide.2 HI.out).mono ?_; rintro e w4 ⟨rfl, rfl⟩; rw [hm1])
      refine hR.mono ?_
      rintro e W3 (⟨rfl, hJ3, hk3⟩ | ⟨rfl, hJx3⟩)
      · gi_wp2
        go_end0
        exact ⟨⟨_, rfl⟩, .inl ⟨_, by rw [hc, hcr], hJ3⟩⟩
      · gi_wp2
        go_end0
        exact ⟨⟨_, rfl⟩, .inr ⟨_, by rw [hc, hcr]; exact List.prefix_refl _, hJx3⟩⟩
    · obtain ⟨k, hk⟩ : ∃ k : Nat, Lib.indexByte r 44 = k := ⟨(Lib.indexByte r 44).toNat, by omega⟩
      obtain ⟨hkl, hcr⟩ := comma_at hk
      clear hneg
      obtain ⟨fn, tmps, assign, body, hy, hR⟩ := hY pre (r.take k) wr hj (by rw [hc, hcr]; exact ⟨_, List.append_assoc _ _ _⟩)
      have hk64 : wrap64 (k : Int) = k := by unfold wrap64; omega
      have hk65 : wrap64 ((k : Int) + 1) = ((k + 1 : Nat) : Int) := by unfold wrap64; omega
      rw [show sV (r.take k) = .string ((⟨r.toArray⟩ : ByteArray).extract 0 k) from by rw [ext_take]] at hy
      gi_wp2_with (refine ⟨trivial, ?_⟩; gi_at_call 68; refine (callsIn_wide.2 HI.out).mono ?_; rintro e w4 ⟨rfl, rfl⟩; rw [hk])
      refine hR.mono ?_
      rintro e W3 (⟨rfl, hJ3, hk3⟩ | ⟨rfl, hJx3⟩)
      · have hs3 := cK hk3 (Nat.le_refl _) (by omega) hsr
        have hf3 := fK hk3 hfr
        have hp3 := cK hk3 (by omega) (by omega) hpr
        have hv3 := cK hk3 (by omega) (by omega) hvr
        have hg := grownBy_setCell' W3 B (.string ((⟨r.toArray⟩ : ByteArray).extract (k + 1) r.length))
        have hsame : (W3.setCell ⟨B, 0, none⟩ (.string ((⟨r.toArray⟩ : ByteArray).extract (k + 1) r.length))).cell? ⟨B, 0, none⟩ = some (sV (r.drop (k + 1))) := by
          rw [World.cell?_setCell_same' _ _ _ (by rw [hs3]; rfl), ext_drop]
        have hfs : (W3.setCell ⟨B, 0, none⟩ (.string ((⟨r.toArray⟩ : ByteArray).extract (k + 1) r.length))).frozen? ⟨B, 0, none⟩ = false := by
          rw [World.frozen?_setCell]; exact hf3
        gi_wp2
        refine ⟨⟨pre ++ [r.take k], r.drop (k + 1), by rw [hc, hcr, List.append_assoc]; rfl, by rw [List.length_drop]; omega, hsame, hfs,
          hg.cell hp3 (by simp), hg.cell hv3 (by simp), hJ _ _ _ (some B) hJ3 hg (fun r e => by cases e; rfl)⟩, ?_⟩
        rw [textIn_eq hsame, textIn_eq hsr, List.length_drop]; omega
      · gi_wp2
        refine bodyPost_ret (results_none rfl _ _ _) rfl ?_
        exact ⟨⟨_, rfl⟩, .inr ⟨_, by rw [hc, hcr]; exact ⟨_, List.append_assoc _ _ _⟩, hJx3⟩⟩

set_option maxRecDepth 100000 in
theorem splitSeq_any (s : Bs) (w : World) : Calls Tryz.prog 39 #[sV s, sV [44]] w fun e w' =>
    e = .returned (.func (.func 66) #[] #[.pointer (some ⟨w.heap.size + 1, 0, none⟩), .pointer (some ⟨w.heap.size, 0, none⟩), .pointer (some ⟨w.heap.size + 2, 0, none⟩)]) ∧
    w' = ((w.alloc (.cells #[sV s] 9)).alloc (.cells #[sV [44]] 9)).alloc (.cells #[.int .i64 0] 3) := by
  have C : ∀ W, Calls Tryz.prog 53 #[sV s, sV [44], .int .i64 0] W fun e w' =>
    e = .returned (.func (.func 66) #[] #[.pointer (some ⟨W.heap.size + 1, 0, none⟩), .pointer (some ⟨W.heap.size, 0, none⟩), .pointer (some ⟨W.heap.size + 2, 0, none⟩)]) ∧
    w' = ((W.alloc (.cells #[sV s] 9)).alloc (.cells #[sV [44]] 9)).alloc (.cells #[.int .i64 0] 3) := by
    intro W
    go_enter Tryz.func53, Tryz.ntmps53
    go_wp2_with fail
    go_ret
    exact ⟨rfl, rfl⟩
  go_enter Tryz.func39, Tryz.ntmps39
  go_wp2_with (go_at_call 53; refine (C _).mono ?_; rintro e w2 ⟨rfl, rfl⟩)
  go_ret
  exact ⟨rfl, rfl⟩
end Go.Proofs.YtkfjgmfokpgcbaaGreatDoor.data
namespace Go.Proofs.YtkfjgmfokpgcbaaGreatDoor.data
open Go.RowKit Go.Shelf Go.Proofs.YtkfjgmfokpgcbaaGreatDoor.words Go.Proofs.YtkfjgmfokpgcbaaGreatDoor.seqBox Go.Proofs.YtkfjgmfokpgcbaaGreatDoor.opened Go.Proofs.YtkfjgmfokpgcbaaGreatDoor.block

attribute [local go_sem] Oper.semAt_some

theorem cuts_len : ∀ (r w : Bs), ∀ p ∈ cutsC w r, p.length ≤ w.length + r.length
  | [], w, p, h => by simp [cutsC] at h; subst h; simp
  | c :: r, w, p, h => by
    rw [cutsC] at h
    split at h
    · rcases List.mem_cons.1 h with rfl | h
      · simp
      · have := cuts_len r [] p h
        simp at this ⊢
        omega
    · have := cuts_len r (w ++ [c]) p h
      simp at this ⊢
      omega
theorem piece_len {s p : Bs} {pre : List Bs} (h : pre ++ [p] <+: cutsL s) : p.length ≤ s.length := by
  have := cuts_len s [] p (h.subset (by simp))
  simpa using this

theorem cell_res {tmps : Array Value} {W : World} {n0 : Nat} {u v : Value} (h2 : tmps.getD 2 undef = .pointer (some ⟨n0, 0, none⟩)) (h3 : tmps.getD 3 undef = .pointer (some ⟨n0 + 1, 0, none⟩)) (b2 : Boxed W n0 22 u) (b3 : Boxed W (n0 + 1) 26 v) :
    (results Tryz.f20 tmps).run Tryz.prog W = .ok (.tuple #[u, v]) W := by
  have hr : Tryz.f20.results = #[.cell 2 22, .cell 3 26] := rfl
  have a1 := run_isAgg_plain Tryz.underlying22 rfl W
  have a2 := run_isAgg_plain Tryz.underlying26 rfl W
  have c2 := b2.cell
  have c3 := b3.cell
  have h2' : tmps[2]?.getD undef = .pointer (some ⟨n0, 0, none⟩) := by simpa using h2
  have h3' : tmps[3]?.getD undef = .pointer (some ⟨n0 + 1, 0, none⟩) := by simpa using h3
  simp [results, h2', h3', asAddr, loadVar, a1, a2, Sem.run_bind, Result.andThen, go_sem, c2, c3]

theorem boxed_under {W W' : World} {B n : Nat} {t : TypeId} {v : Value} (h : Boxed W B t v) (hb : Below n W W') (hlt : B < n) : Boxed W' B t v := (hb.block B hlt).trans h

/-- What the loop of data.Parse keeps of the iterator's boxes. -/
def Held (n0 : Nat) (A B : World) : Prop := Below n0 A B ∧ ∀ k, n0 + 3 ≤ k → k < n0 + 6 → B.heap[k]? = A.heap[k]?
theorem Held.trans {n0 : Nat} {A B C : World} (h : Held n0 A B) (k : Held n0 B C) : Held n0 A C := ⟨h.1.trans k.1, fun i h1 h2 => (k.2 i h1 h2).trans (h.2 i h1 h2)⟩
theorem Held.grown {n0 : Nat} {A B : World} {row : Option Nat} (hs : n0 + 6 ≤ A.heap.size) (hg : A.grownBy B row) (hr : ∀ r, row = some r → n0 ≤ r ∧ (r < n0 + 3 ∨ n0 + 6 ≤ r)) : Held n0 A B :=
  ⟨(Below.refl n0 A).grown hg (by omega) (fun k e => (hr k e).1), fun k h1 h2 => hg.block k (by omega) (fun e => by have := (hr k e.symm).2; omega)⟩

theorem start_facts (w : World) (s : Bs) : ∀ W0, W0 = ((((((w.alloc (.cells #[.slice none 0 0] 22)).alloc (.cells #[.int .i64 0] 26)).alloc (.cells #[.slice none 0 0] 22)).alloc (.cells #[sV s] 9)).alloc (.cells #[sV [44]] 9)).alloc (.cells #[.int .i64 0] 3)) →
    W0.heap.size = w.heap.size + 6 ∧ Boxed W0 w.heap.size 22 (.slice none 0 0) ∧ Boxed W0 (w.heap.size + 1) 26 (.int .i64 0) ∧ Boxed W0 (w.heap.size + 2) 22 (.slice none 0 0) ∧
    Boxed W0 (w.heap.size + 3) 9 (sV s) ∧ Boxed W0 (w.heap.size + 4) 9 (sV [44]) ∧ Boxed W0 (w.heap.size + 5) 3 (.int .i64 0) ∧ Below w.heap.size w W0 := by
  intro W0 h0
  have step : ∀ (W : World) (k : Nat) (t : TypeId) (v : Value), W.heap.size = k → Boxed (W.alloc (.cells #[v] t)) k t v ∧ (W.alloc (.cells #[v] t)).heap.size = k + 1 := fun W k t v h => ⟨h ▸ Boxed.new W t v, by simp [h]⟩
  obtain ⟨b0, z0⟩ := step w _ 22 (.slice none 0 0) rfl
  obtain ⟨b1, z1⟩ := step _ _ 26 (.int .i64 0) z0
  obtain ⟨b2, z2⟩ := step _ _ 22 (.slice none 0 0) z1
  obtain ⟨b3, z3⟩ := step _ _ 9 (sV s) z2
  obtain ⟨b4, z4⟩ := step _ _ 9 (sV [44]) z3
  obtain ⟨b5, z5⟩ := step _ _ 3 (.int .i64 0) z4
  subst h0
  refine ⟨z5, ((((b0.alloc _).alloc _).alloc _).alloc _).alloc _, (((b1.alloc _).alloc _).alloc _).alloc _, ((b2.alloc _).alloc _).alloc _, (b3.alloc _).alloc _, b4.alloc _, b5, ?_⟩
  exact ((((((Below.refl w.heap.size w).alloc (Nat.le_refl _) _).alloc (by omega) _).alloc (by omega) _).alloc (by omega) _).alloc (by omega) _).alloc (by omega) _

theorem two_new (w : World) (x y : Value) (t : TypeId) : ∀ j u, [x, y][j]? = some u → (w.alloc (.cells #[x, y] t)).cell? ((⟨w.heap.size, 0, none⟩ : Addr).add j) = some u := by
  intro j u h
  have hh := World.alloc_heap_new w (.cells #[x, y] t)
  generalize w.alloc (.cells #[x, y] t) = W at hh ⊢
  generalize w.heap.size = g at hh ⊢
  match j with
  | 0 => simp at h; subst h; simp [World.cell?, Addr.add, hh]
  | 1 => simp at h; subst h; simp [World.cell?, Addr.add, hh]
  | j + 2 => simp at h
theorem step_add {n0 : Nat} {W w2 w6 : World} {X Y : Obj} {v : Value} {M : List Rc} (hsz : n0 + 6 ≤ W.heap.size) (b2 : Below W.heap.size W w2) (O2 : w2.ownsRow (n0 + 6) 33 2 v M.length (M.flatMap cR))
    (hg : ((w2.alloc X).alloc Y).grownBy w6 v.ownBlock) : (∀ k, k < W.heap.size → some k ≠ v.ownBlock → w6.heap[k]? = W.heap[k]?) ∧ KeepsFrom (n0 + 6) W w6 ∧ Held n0 W w6 := by
  have s2 := b2.size
  have g1 := World.grownBy_alloc w2 X none
  have g2 := World.grownBy_alloc (w2.alloc X) Y none
  have s1 : w2.heap.size ≤ (w2.alloc X).heap.size := g1.size
  have s3 : (w2.alloc X).heap.size ≤ ((w2.alloc X).alloc Y).heap.size := g2.size
  have hlo : ∀ r, v.ownBlock = some r → n0 + 6 ≤ r := fun r e => (O2.lt r e).1
  refine ⟨fun k hk hne => (hg.block k (by omega) hne).trans ((g2.block k (by omega) (by simp)).trans ((g1.block k (by omega) (by simp)).trans (b2.block k hk))), ?_, ?_⟩
  · refine KeepsFrom.trans (Y := w2) ⟨b2.size, fun k o _ hk _ => (b2.block k (Array.getElem?_eq_some_iff.1 hk).1).trans hk⟩ ?_
    refine (((KeepsOthers.alloc w2 X).trans (KeepsOthers.alloc _ Y)).trans (KeepsOthers.of_grownBy hg fun j o ej hj => ?_)).from _
    rcases ((O2.alloc X).alloc Y).2 with ⟨rfl, _⟩ | ⟨g, cap, cur, rfl, _, hgb, _⟩
    · simp [Value.ownBlock] at ej
    · obtain rfl : g = j := by simpa [Value.ownBlock] using ej
      rw [hgb] at hj; cases hj; rfl
  · have h1 : Held n0 W w2 := ⟨b2.mono (by omega), fun k h1 h2 => b2.block k (by omega)⟩
    exact ((h1.trans (Held.grown (by omega) g1 (fun r e => by cases e))).trans (Held.grown (by omega) g2 (fun r e => by cases e))).trans (Held.grown (by omega) hg (fun r e => by have := hlo r e; omega))

/-- Between two rounds of data.Parse. -/
def Part (n0 : Nat) (w : World) (pre : List Bs) (W : World) : Prop :=
  ∃ N M v, recs pre = some N ∧ M = N.take 65 ∧ Boxed W n0 22 (.slice none 0 0) ∧ Boxed W (n0 + 1) 26 (.int .i64 0) ∧ Boxed W (n0 + 2) 22 v ∧ OwnR W (n0 + 6) v M ∧ Below n0 w W ∧ n0 + 6 ≤ W.heap.size
/-- A round has left. -/
def Left (n0 : Nat) (w : World) (c : Code) (pre : List Bs) (W : World) : Prop :=
  c = .ret ∧ (∃ p pre', pre = pre' ++ [p] ∧ recP p = none) ∧ Boxed W n0 22 (.slice none 0 0) ∧ Boxed W (n0 + 1) 26 (.int .i64 6) ∧ Below n0 w W

theorem part_rests {n0 : Nat} {w : World} (hw : n0 = w.heap.size) : Rests (n0 + 3) (n0 + 6) (Part n0 w) := by
  rintro s A B row ⟨N, M, v, hN, hM, b2, b3, b4, ho, hb, hz⟩ hg hr
  have ne : ∀ k, k < n0 + 3 → some k ≠ row := fun k hk e => by
    rcases hr k e.symm with h | ⟨h, -⟩ <;> omega
  refine ⟨N, M, v, hN, hM, b2.kept hg (ne _ (by omega)), b3.kept hg (ne _ (by omega)), b4.kept hg (ne _ (by omega)), ho.past hg (fun k e e' => ?_), hb.grown hg (by have := b2.lt; omega) (fun k e => by rcases hr k e with h | ⟨h, -⟩ <;> omega), Nat.le_trans hz hg.size⟩
  have hlo := ho.above e'.symm
  rcases hr k e with h | ⟨-, o, hk, hc⟩
  · omega
  · rcases ho.2 with ⟨rfl, _⟩ | ⟨g, cap, cur, rfl, _, hgb, _⟩
    · cases e'
    · obtain rfl : k = g := by simpa [Value.ownBlock] using e'
      rw [hgb] at hk; cases hk; cases hc
theorem left_rests {n0 : Nat} {w : World} (hw : n0 = w.heap.size) (c : Code) : Rests (n0 + 3) (n0 + 6) (Left n0 w c) := by
  rintro s A B row ⟨hc, hp, b2, b3, hb⟩ hg hr
  have ne : ∀ k, k < n0 + 3 → some k ≠ row := fun k hk e => by
    rcases hr k e.symm with h | ⟨h, -⟩ <;> omega
  exact ⟨hc, hp, b2.kept hg (ne _ (by omega)), b3.kept hg (ne _ (by omega)), hb.grown hg (by have := b2.lt; omega) (fun k e => by rcases hr k e with h | ⟨h, -⟩ <;> omega)⟩

theorem part_add {n0 : Nat} {w W w6 : World} {pre : List Bs} {p : Bs} {r : Rc} {N M : List Rc} {v u : Value} {g cap : Nat} (hn0 : n0 = w.heap.size) (HN : recs pre = some N) (hr : recP p = some r) (HM : M = N.take 65) (hlt : M.length ≤ 64)
    (T2 : Boxed W n0 22 (.slice none 0 0)) (T3 : Boxed W (n0 + 1) 26 (.int .i64 0)) (hb : Below n0 w W) (hz : n0 + 6 ≤ W.heap.size) (hlo : ∀ k, v.ownBlock = some k → n0 + 6 ≤ k)
    (hk6 : ∀ k, k < W.heap.size → some k ≠ v.ownBlock → w6.heap[k]? = W.heap[k]?) (K6 : KeepsFrom (n0 + 6) W w6) (H6 : Held n0 W w6) (V4 : Boxed w6 (n0 + 2) 22 u)
    (ho : w6.ownsRow (n0 + 6) 33 2 (.slice (some ⟨g, 0, none⟩) (M.length + 1) cap) (M.length + 1) (M.flatMap cR ++ cR r)) :
    KeepsFrom (n0 + 6) W (w6.setCell ⟨n0 + 2, 0, none⟩ (.slice (some ⟨g, 0, none⟩) (M.length + 1) cap)) ∧ Held n0 W (w6.setCell ⟨n0 + 2, 0, none⟩ (.slice (some ⟨g, 0, none⟩) (M.length + 1) cap)) ∧
      Part n0 w (pre ++ [p]) (w6.setCell ⟨n0 + 2, 0, none⟩ (.slice (some ⟨g, 0, none⟩) (M.length + 1) cap)) := by
  have gs := grownBy_setCell' w6 (n0 + 2) (.slice (some ⟨g, 0, none⟩) (M.length + 1) cap)
  have hs6 := K6.size
  have ne : ∀ k, k < n0 + 6 → some k ≠ v.ownBlock := fun k hk e => by have := hlo k e.symm; omega
  have hgl := (ho.lt g rfl).1
  have hH := H6.trans (Held.grown (by omega) gs (fun r e => by cases e; omega))
  refine ⟨K6.trans ((KeepsOthers.setCell _ _ _).from _), hH, N ++ [r], M ++ [r], _, recs_some HN hr, ?_, ?_, ?_, V4.set _, ?_, hb.trans hH.1, Nat.le_trans hz (Nat.le_trans hs6 gs.size)⟩
  · have : N.length ≤ 64 := by rw [HM, List.length_take] at hlt; omega
    rw [HM, List.take_of_length_le (by omega), List.take_of_length_le (by simp; omega)]
  · exact Boxed.kept (show Boxed w6 _ _ _ from (hk6 _ (by omega) (ne _ (by omega))).trans T2) gs (by simp)
  · exact Boxed.kept (show Boxed w6 _ _ _ from (hk6 _ (by omega) (ne _ (by omega))).trans T3) gs (by simp)
  · exact (own_snoc ho).past gs (fun k e => by cases e; simp [Value.ownBlock]; omega)
theorem part_same {n0 : Nat} {w W w2 : World} {X : Obj} {pre : List Bs} {p : Bs} {r : Rc} {N M : List Rc} {v : Value} (HN : recs pre = some N) (hr : recP p = some r) (HM : M = N.take 65) (hlt : ¬ M.length ≤ 64)
    (T2 : Boxed W n0 22 (.slice none 0 0)) (T3 : Boxed W (n0 + 1) 26 (.int .i64 0)) (T4 : Boxed W (n0 + 2) 22 v) (hb : Below n0 w W) (hz : n0 + 6 ≤ W.heap.size) (b2 : Below W.heap.size W w2)
    (ho : OwnR W (n0 + 6) v M) : KeepsFrom (n0 + 6) W (w2.alloc X) ∧ Held n0 W (w2.alloc X) ∧ Part n0 w (pre ++ [p]) (w2.alloc X) := by
  have s2 := b2.size
  have g1 := World.grownBy_alloc w2 X none
  have b3 : Below W.heap.size W (w2.alloc X) := b2.trans ((Below.refl _ w2).alloc s2 _)
  have hH : Held n0 W (w2.alloc X) := ⟨b3.mono (by omega), fun k h1 h2 => b3.block k (by omega)⟩
  refine ⟨⟨b3.size, fun k o _ hk _ => (b3.block k (Array.getElem?_eq_some_iff.1 hk).1).trans hk⟩, hH, N ++ [r], M, v, recs_some HN hr, ?_, boxed_under T2 b3 (by omega), boxed_under T3 b3 (by omega), boxed_under T4 b3 (by omega), ho.below b3, hb.trans hH.1, Nat.le_trans hz b3.size⟩
  have : 65 ≤ N.length := by rw [HM, List.length_take] at hlt; omega
  rw [HM, List.take_append_of_le_length this]
theorem left_at {n0 : Nat} {w W w2 : World} {X : Obj} {pre : List Bs} {p : Bs} {u2 u3 : Value} (hr : recP p = none) (hb : Below n0 w W) (hz : n0 + 6 ≤ W.heap.size) (b2 : Below W.heap.size W w2)
    (U2 : Boxed (w2.alloc X) n0 22 u2) (U3 : Boxed (w2.alloc X) (n0 + 1) 26 u3) :
    KeepsFrom (n0 + 6) W (((w2.alloc X).setCell ⟨n0, 0, none⟩ (.slice none 0 0)).setCell ⟨n0 + 1, 0, none⟩ (.int .i64 6)) ∧ Left n0 w .ret (pre ++ [p]) (((w2.alloc X).setCell ⟨n0, 0, none⟩ (.slice none 0 0)).setCell ⟨n0 + 1, 0, none⟩ (.int .i64 6)) := by
  have s2 := b2.size
  have b3 : Below W.heap.size W (w2.alloc X) := b2.trans ((Below.refl _ w2).alloc s2 _)
  have g1 := grownBy_setCell' (w2.alloc X) n0 (.slice none 0 0)
  have g2 := grownBy_setCell' ((w2.alloc X).setCell ⟨n0, 0, none⟩ (.slice none 0 0)) (n0 + 1) (.int .i64 6)
  refine ⟨KeepsFrom.trans ⟨b3.size, fun k o _ hk _ => (b3.block k (Array.getElem?_eq_some_iff.1 hk).1).trans hk⟩ (((KeepsOthers.setCell _ _ _).trans (KeepsOthers.setCell _ _ _)).from _), rfl, ⟨p, pre, rfl, hr⟩,
    (U2.set _).kept g2 (by simp), (U3.kept g1 (by simp)).set _, ?_⟩
  exact (((hb.trans (b3.mono (by omega))).setCell (p := ⟨n0, 0, none⟩) (Nat.le_refl _) _).setCell (p := ⟨n0 + 1, 0, none⟩) (by simp) _)

theorem own_low {w : World} {b b' : Nat} {v : Value} {L : List Rc} (hle : b' ≤ b) (h : OwnR w b v L) : OwnR w b' v L := by
  obtain ⟨h1, h2 | ⟨g, cap, cur, e, hb, r⟩⟩ := h
  · exact ⟨h1, .inl h2⟩
  · exact ⟨h1, .inr ⟨g, cap, cur, e, Nat.le_trans hle hb, r⟩⟩
/-- The results are stored, and the block of the rounds' deferred calls is shut. -/
theorem fin_two {n0 Dk : Nat} {w W : World} {u2 u3 : Value} (a b : Value) (hn : n0 = w.heap.size) (hD : n0 + 6 ≤ Dk) (T2 : Boxed W n0 22 u2) (T3 : Boxed W (n0 + 1) 26 u3) (hb : Below n0 w W) (hK : W.heap[Dk]? = some (.deferred (some []))) :
    ((W.setCell ⟨n0, 0, none⟩ a).setCell ⟨n0 + 1, 0, none⟩ b).heap[Dk]? = some (.deferred (some [])) ∧
    Boxed (((W.setCell ⟨n0, 0, none⟩ a).setCell ⟨n0 + 1, 0, none⟩ b).putObj Dk (.deferred none)) n0 22 a ∧
    Boxed (((W.setCell ⟨n0, 0, none⟩ a).setCell ⟨n0 + 1, 0, none⟩ b).putObj Dk (.deferred none)) (n0 + 1) 26 b ∧
    Below n0 w (((W.setCell ⟨n0, 0, none⟩ a).setCell ⟨n0 + 1, 0, none⟩ b).putObj Dk (.deferred none)) ∧
    ∀ v L, OwnR W (n0 + 6) v L → OwnR (((W.setCell ⟨n0, 0, none⟩ a).setCell ⟨n0 + 1, 0, none⟩ b).putObj Dk (.deferred none)) (n0 + 6) v L := by
  have g1 := grownBy_setCell' W n0 a
  have g2 := grownBy_setCell' (W.setCell ⟨n0, 0, none⟩ a) (n0 + 1) b
  have g3 := grownBy_putObj' ((W.setCell ⟨n0, 0, none⟩ a).setCell ⟨n0 + 1, 0, none⟩ b) Dk (.deferred none)
  have hk1 := ((KeepsOthers.setCell W ⟨n0, 0, none⟩ a).trans (KeepsOthers.setCell _ ⟨n0 + 1, 0, none⟩ b)).same Dk _ hK rfl
  have hlt := T3.lt
  refine ⟨hk1, ((T2.set a).kept g2 (by simp)).kept g3 (by simp; omega), ((T3.kept g1 (by simp)).set b).kept g3 (by simp; omega), ?_, ?_⟩
  · exact ((((hb.setCell (p := ⟨n0, 0, none⟩) (Nat.le_refl _) a).setCell (p := ⟨n0 + 1, 0, none⟩) (by simp) b))).grown g3 (by have := g1.size; have := g2.size; omega) (fun k e => by cases e; omega)
  · intro v L ho
    have o1 := ho.past g1 (fun k e => fun e' => by cases e; have := ho.above e'.symm; omega)
    have o2 := o1.past g2 (fun k e => fun e' => by cases e; have := o1.above e'.symm; omega)
    exact ownsRow_putObj o2 _ hk1 rfl
theorem fin_none {n0 Dk : Nat} {w W : World} {u2 u3 : Value} (hn : n0 = w.heap.size) (hD : n0 + 6 ≤ Dk) (T2 : Boxed W n0 22 u2) (T3 : Boxed W (n0 + 1) 26 u3) (hb : Below n0 w W) :
    Boxed (W.putObj Dk (.deferred none)) n0 22 u2 ∧ Boxed (W.putObj Dk (.deferred none)) (n0 + 1) 26 u3 ∧ Below n0 w (W.putObj Dk (.deferred none)) := by
  have g3 := grownBy_putObj' W Dk (.deferred none)
  have hlt := T3.lt
  exact ⟨T2.kept g3 (by simp; omega), T3.kept g3 (by simp; omega), hb.grown g3 (by omega) (fun k e => by cases e; omega)⟩

set_option maxRecDepth 100000 in
set_option maxHeartbeats 4000000 in
theorem parse_any (s : Bs) (hlen : s.length ≤ 100000) (w : World) (hE : Env w) :
    Calls Tryz.prog 20 #[sV s] w fun e w' => ∃ A c, e = .returned (.tuple #[.slice A (prsV s).length c, .int .i64 (prsE s)]) ∧ OwnR w' w.heap.size (.slice A (prsV s).length c) (prsV s) ∧ Below w.heap.size w w' := by
  refine (callsIn_wide (n := 6)).1 ?_
  refine callsIn_of_wp_marks Tryz.func20 rfl trivial ?_ rfl
  simp only [Tryz.ntmps20, List.size_toArray, List.length_cons, List.length_nil, Nat.reduceAdd, Nat.reduceSub, Array.replicate_succ, Array.replicate_zero, List.push_toArray, List.append_toArray, List.nil_append, List.cons_append]
  gi_wp2_with (refine ⟨trivial, ?_⟩; gi_at_call 39; refine (callsIn_wide.2 (splitSeq_any s _)).mono ?_; rintro e w' ⟨rfl, rfl⟩)
  · rename_i hq
    have hq : s = [45] := by simpa using hq
    subst hq
    have d0 : ∀ (W : World), (Boxed W w.heap.size 22 (.slice none 0 0)) → Boxed W (w.heap.size + 1) 26 (.int .i64 0) → Below w.heap.size w W → True := fun _ _ _ _ => trivial
    have B2 := (Boxed.new w 22 (.slice none 0 0)).alloc (.cells #[.int .i64 0] 26)
    have B3 := Boxed.new (w.alloc (.cells #[.slice none 0 0] 22)) 26 (.int .i64 0)
    rw [World.size_alloc] at B3
    refine ⟨_, cell_res rfl rfl B2 B3, none, 0, ?_, ?_, ?_⟩
    · rw [prs_dash.1, prs_dash.2]; rfl
    · rw [prs_dash.1]; exact ownG_nil _ _
    · exact (fresh0 w _).trans ((Below.refl _ _).alloc (by simp) _)
  · rename_i hq K1 a1
    have hq : s ≠ [45] := fun e => by rw [e] at hq; cases hq
    obtain ⟨z, S2, S3, S4, S5, S6, S7, SB⟩ := start_facts w s _ rfl
    generalize ((((((w.alloc (.cells #[.slice none 0 0] 22)).alloc (.cells #[.int .i64 0] 26)).alloc (.cells #[.slice none 0 0] 22)).alloc (.cells #[sV s] 9)).alloc (.cells #[sV [44]] 9)).alloc (.cells #[.int .i64 0] 3)) = W0 at z S2 S3 S4 S5 S6 S7 SB ⊢
    refine wpIn_rangeBox (n := 6) (b := w.heap.size + 3) (Kp := Held w.heap.size) rfl (by omega) (gf := 66) rfl trivial (enters_of Tryz.func66 (by kernel_rfl) rfl) (by omega)
      (split_box 5 (by omega) (w.heap.size + 3) s (by omega) (Held w.heap.size) (fun X Y k h h1 h2 => h.2 k h1 (by omega)) W0 S5.cell S5.frozen S6.cell S7.cell)
      (fun h k => h.trans k) (fun A B row hA hg hr => Held.grown (by omega) hg (fun r e => by have := hr r e; omega)) ⟨Below.refl _ _, fun _ _ _ => rfl⟩ (fun _ => rfl)
      (Part w.heap.size w) (Left w.heap.size w) (z ▸ part_rests rfl) (fun c => z ▸ left_rests rfl c) ⟨[], [], _, rfl, rfl, S2, S3, S4, ownG_nil _ _, SB, by omega⟩ (fun x => { tmps := #[sV s, undef, .pointer (some ⟨w.heap.size, 0, none⟩), .pointer (some ⟨w.heap.size + 1, 0, none⟩), .pointer (some ⟨w.heap.size + 2, 0, none⟩), sV x, undef, undef, sV s, .bool false, sV s,
        .func (.func 66) #[] #[.pointer (some ⟨w.heap.size + 4, 0, none⟩), .pointer (some ⟨w.heap.size + 3, 0, none⟩), .pointer (some ⟨w.heap.size + 5, 0, none⟩)], sV x, undef, undef, undef, undef, undef, undef, undef, undef, undef, undef, undef, undef, undef, undef, undef, undef, undef, undef, undef], defers := [] }) ?assign ?body ?done ?stop
    case assign =>
      intro l x W K hK
      gi_wp2
      exact hK
    case body =>
      rintro l pre p W ⟨N, M, v, hN, hM, T2, T3, T4, ho, hb, hz6⟩ hok
      have hp := piece_len hok
      have h4 : 1 ≤ 6 - 1 - 1 := by omega
      have PA := prec_any p (by omega) W (hE.below hb)
      have wsz := hb.size
      have l4 := T4.lt
      cases hr : recP p with
      | none =>
        have e1 : rcE p = 6 := by simp [rcE, hr]
        have e2 : rcV p = ⟨0, 0⟩ := by simp [rcV, hr]
        rw [e1, e2] at PA
        gi_wp2_with (refine ⟨trivial, ?_⟩; gi_at_call 40; refine (CallsIn.inRound l (callsIn_wide.2 PA)).mono ?_; rintro e w2 ⟨rfl, b2⟩; have U2 := (boxed_under T2 b2 (by omega)).alloc (.cells #[.int .i64 0, .int .i64 0] 33); have U3 := (boxed_under T3 b2 (by omega)).alloc (.cells #[.int .i64 0, .int .i64 0] 33); have c2 := U2.cell; have c3 := U3.cell; have f2 := U2.frozen; have f3 := U3.frozen)
        rw [z]
        exact left_at hr hb hz6 b2 U2 U3
      | some r =>
        have e1 : rcE p = 0 := by simp [rcE, hr]
        have e2 : rcV p = r := by simp [rcV, hr]
        rw [e1, e2] at PA
        obtain ⟨i0, hi0, hz0, hz1, hz2⟩ := infoR_parts
        have hMl : M.length ≤ 65 := by rw [hM]; simp; omega
        have hn4 : (22 : TypeId) ≠ 33 := by decide
        obtain ⟨D, c, rfl, hlc, hcm⟩ := ho.shape
        have HM := Lib.hid hM
        have HN := Lib.hid hN
        clear hM hN
        gi_wp2_with (first
          | (refine ⟨trivial, ?_⟩; gi_at_call 40; refine (CallsIn.inRound l (callsIn_wide.2 PA)).mono ?_; rintro e w2 ⟨rfl, b2⟩; have U4 := (boxed_under T4 b2 (by omega)).alloc (.cells #[.int .i64 r.k, .int .i64 r.v] 33); have c4 := U4.cell; have f4 := U4.frozen; have s2 := b2.size; have O2 : w2.ownsRow (w.heap.size + 6) 33 2 (.slice D M.length c) M.length (M.flatMap cR) := ho.below b2)
          | (gi_at_builtin; refine wpListIn_append_own _ rfl _ _ 22 rfl (w.heap.size + 6) 33 i0 (.agg #[.int .i64 0, .int .i64 0]) 2 16 Tryz.underlying22 hi0 hz0 hz1 hz2 rfl (by decide) _ M.length (M.flatMap cR) rfl ((O2.alloc _).alloc _) ⟨(w2.alloc (.cells #[.int .i64 r.k, .int .i64 r.v] 33)).heap.size, 0, none⟩ 1 1 (cR r) (by simp [Act.eval]) rfl (two_new _ _ _ _) (by simp [cR, Value.oneCell']) (by simp [maxLen]; omega) (by omega) (by simp; omega) ?_; intro v' w6 hown' hgrow _; obtain ⟨g', cap', rfl⟩ := ownsRow_succ hown'; have V4 := (U4.alloc (.cells #[.int .i64 r.k, .int .i64 r.v] 33)).kept hgrow (U4.not_row hn4 (O2.alloc _)); have c6 := V4.cell; have f6 := V4.frozen; obtain ⟨hk6, K6, H6⟩ := step_add (by omega) b2 O2 hgrow))
        all_goals (rw [z])
        all_goals (first
          | exact part_add rfl HN.out hr HM.out (by omega) T2 T3 hb hz6 (fun k e => (O2.lt k e).1) hk6 K6 H6 V4 hown'
          | exact part_same HN.out hr HM.out (by omega) T2 T3 T4 hb hz6 b2 ho)
    case done =>
      rintro Dk xs W hD rfl ⟨N, M, v, hN, hM, T2, T3, T4, ho, hb, hz6⟩ hK
      obtain ⟨A, c, rfl, hlc, hcm⟩ := ho.shape
      have HM := Lib.hid hM
      have HN := Lib.hid hN
      clear hM hN
      have c2 := T2.cell
      have c3 := T3.cell
      have c4 := T4.cell
      have f2 := T2.frozen
      have f3 := T3.frozen
      gi_wp2
      · have hl : 64 < M.length := by omega
        obtain ⟨k1, B2, B3, HB, -⟩ := fin_two (.slice none 0 0) (.int .i64 7) rfl (by omega) T2 T3 hb hK
        refine ⟨by simp, .inl ⟨_, _, rfl, run_takeDeferred k1, ?_⟩⟩
        obtain ⟨p1, p2⟩ := prs_long hq HN.out (by have := HM.out; rw [this, List.length_take] at hl; omega)
        refine ⟨_, cell_res rfl rfl B2 B3, none, 0, ?_, ?_, HB⟩
        · rw [p1, p2]; rfl
        · rw [p1]; exact ownG_nil _ _
      · have hl : M.length ≤ 64 := by omega
        obtain ⟨k1, B2, B3, HB, HO⟩ := fin_two (.slice A M.length c) (.int .i64 0) rfl (by omega) T2 T3 hb hK
        refine ⟨by simp, .inl ⟨_, _, rfl, run_takeDeferred k1, ?_⟩⟩
        have hNl : N.length ≤ 64 := by have := HM.out; rw [this, List.length_take] at hl; omega
        have hMN : M = N := by rw [HM.out]; exact List.take_of_length_le (by omega)
        obtain ⟨p1, p2⟩ := prs_some hq HN.out (by omega)
        subst hMN
        refine ⟨_, cell_res rfl rfl B2 B3, A, c, ?_, ?_, HB⟩
        · rw [p1, p2]
        · rw [p1]; exact own_low (by omega) (HO _ _ ho)
    case stop =>
      rintro Dk c pre W hD hpre ⟨rfl, ⟨p, pre', rfl, hpn⟩, T2, T3, hb⟩ hK
      gi_wp2
      obtain ⟨B2, B3, HB⟩ := fin_none (Dk := Dk) rfl (by omega) T2 T3 hb
      refine ⟨by simp, .inl ⟨_, _, rfl, run_takeDeferred hK, ?_⟩⟩
      have hrn : recs (cutsL s) = none := by
        obtain ⟨t, ht⟩ := hpre
        rw [← ht, List.append_assoc]
        exact recs_none hpn t
      obtain ⟨p1, p2⟩ := prs_none hq hrn
      refine ⟨_, cell_res rfl rfl B2 B3, none, 0, ?_, ?_, HB⟩
      · rw [p1, p2]; rfl
      · rw [p1]; exact ownG_nil _ _
end Go.Proofs.YtkfjgmfokpgcbaaGreatDoor.data
