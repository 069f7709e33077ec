/-
  A loop over an iterator that keeps boxes of its own (splitSeq$1 stores the rest of the text): the iterator's contract, whose invariant also stays when the iterator's own block b turns, and the law of the loop over it. No number of a program.
-/
import Derived.RangeFuncNested
import Derived.RangeFuncBound
import Derived.RangeFuncCalls
import Derived.RangeFuncLeaves
import Derived.Below
set_option linter.unusedSimpArgs false
set_option linter.unusedVariables false
namespace Go.Proofs.YtcogehhjofgbiaaGreatDoor.seqBox
open Go Go.RowKit

variable {F : Fence} {n : Nat} {P : Program}

/-- A step of the iterator's own: new blocks, and block b. -/
def Lets {β : Type} (b : Nat) (J : β → World → Prop) : Prop :=
  ∀ s A B row, J s A → A.grownBy B row → (∀ r, row = some r → r = b) → J s B

/-- What the loop's own book-keeping and the iterator may turn: the caller's invariant stays. -/
def Rests {β : Type} (b B0 : Nat) (I : β → World → Prop) : Prop :=
  ∀ s A B row, I s A → A.grownBy B row → (∀ r, row = some r → r = b ∨ (B0 ≤ r ∧ ∃ o : Obj, A.heap[r]? = some o ∧ o.isCells = false)) → I s B

/-- The contract of an iterator that turns its own block b. -/
def SeqBox {α : Type} (F : Fence) (n : Nat) (P : Program) (g : Nat) (lb : Array Value) (b : Nat) (encs : α → Array Value) (Kp : World → World → Prop) (S Sp : List α → Prop) (Ok : List α → Prop) (w : World) : Prop :=
  ∀ (l : Nat) (J Jx : List α → World → Prop) (W : World), Kp w W → Lets b J → Lets b Jx →
    (∀ pre x W1, J pre W1 → Ok (pre ++ [x]) → YieldAt F (n - 1) P l (encs x) W1 fun e W' =>
      (e = .returned (.bool true) ∧ J (pre ++ [x]) W' ∧ Kp W1 W') ∨ (e = .returned (.bool false) ∧ Jx (pre ++ [x]) W')) →
    J [] W →
    CallsIn F n P g (#[.func (.yield l) #[] #[]] ++ lb) W fun e W' => (∃ v, e = .returned v) ∧ ((∃ xs, S xs ∧ J xs W') ∨ (∃ pre, Sp pre ∧ Jx pre W'))

/-- Where a body may leave from: its jump. -/
def jumpOf : Exit → Option (Option Code)
  | .normal => some none
  | .ret => some (some .ret)
  | .exit id => some (some (.exit id))
  | .goto t => some (some (.goto t))
  | _ => none

theorem wpIn_rangeBox {α : Type} {g : Operand} {ps : Array Tmp} {assign body : Code} {Q : Exit → Act → World → Prop} {a : Act} {w : World}
    (hro : F.round = none) (h1 : 1 ≤ n) {gf : Nat} {lb : Array Value} (hg : a.eval g = .func (.func gf) #[] lb) (hFg : F.fn gf) (eg : ∀ args w, (callFunc gf args).run P w = .ok (.enter gf args) w)
    {b : Nat} (hbw : b < w.heap.size) {encs : α → Array Value} {Kp : World → World → Prop} {S Sp : List α → Prop} {Ok : List α → Prop} {w0 : World} (hseq : SeqBox F (n - 1) P gf lb b encs Kp S Sp Ok w0)
    (hKt : ∀ {A B C : World}, Kp A B → Kp B C → Kp A C) (hKg : ∀ (A B : World) (row : Option Nat), w.heap.size ≤ A.heap.size → A.grownBy B row → (∀ r, row = some r → w.heap.size ≤ r) → Kp A B) (hK0 : Kp w0 w) (hps : ∀ x, (encs x).size = ps.size)
    (I : List α → World → Prop) (Ix : Code → List α → World → Prop) (hI : Rests b w.heap.size I) (hIx : ∀ c, Rests b w.heap.size (Ix c)) (h0 : I [] w) (a₁ : α → Act)
    (hassign : ∀ (l : Nat) (x : α) (W : World) (K : Act → World → Prop), K (a₁ x) W →
      assign.wpIn (F.inRound l) (n - 1 - 1) P (Exit.then K (fun _ _ _ => False)) { tmps := (ps.zip (encs x)).foldl (fun t (p, v) => t.setIfInBounds p v) a.tmps, defers := [] } W)
    (hbody : ∀ (l : Nat) (pre : List α) (x : α) (W : World), I pre W → Ok (pre ++ [x]) → body.wpIn (F.inRound l) (n - 1 - 1) P (ownPostG w.heap.size Kp I Ix (pre ++ [x]) W) (a₁ x) W)
    (hdone : ∀ (D : Nat) (xs : List α) (W : World), w.heap.size ≤ D → S xs → I xs W → W.heap[D]? = some (.deferred (some [])) → Q .normal { a with defers := { target := .collected D, args := #[] } :: a.defers } W)
    (hstop : ∀ (D : Nat) (c : Code) (pre : List α) (W : World), w.heap.size ≤ D → Sp pre → Ix c pre W → W.heap[D]? = some (.deferred (some [])) → c.wpIn F n P Q { a with defers := { target := .collected D, args := #[] } :: a.defers } W) :
    (Code.rangeFunc g ps assign body).wpIn F n P Q a w := by
  refine wpIn_rangeFunc fun fn hfn => ?_
  rw [hro]
  obtain ⟨rec, hrec⟩ : ∃ rec : LoopState → Option Code → Loop, rec = fun st pe => { state := st, pending := pe, fn, tmps := a.tmps, params := ps, assign, body, defers := w.heap.size } := ⟨_, rfl⟩
  have hg1 := World.grownBy_alloc w (.deferred (some [])) none
  have hg2 := World.grownBy_alloc (w.alloc (.deferred (some []))) (.loop (rec .ready none)) none
  have hL := World.alloc_heap_new (w.alloc (.deferred (some []))) (.loop (rec .ready none))
  rw [World.size_alloc] at hL
  have hD := (hg2.block w.heap.size (by simp) (by simp)).trans (World.alloc_heap_new w (.deferred (some [])))
  have hK1 : Kp w0 ((w.alloc (.deferred (some []))).alloc (.loop (rec .ready none))) :=
    hKt hK0 (hKt (hKg _ _ none (Nat.le_refl _) hg1 (fun r e => by cases e)) (hKg _ _ none (by simp) hg2 (fun r e => by cases e)))
  have hI1 := hI _ _ _ none (hI _ _ _ none h0 hg1 (fun r e => by cases e)) hg2 (fun r e => by cases e)
  have hsz : w.heap.size + 1 < ((w.alloc (.deferred (some []))).alloc (.loop (rec .ready none))).heap.size := by simp
  have he : (Instr.enterLoop fn a.tmps ps assign body none).run P w = .ok (w.heap.size + 1, [{ target := .collected w.heap.size, args := #[] }]) ((w.alloc (.deferred (some []))).alloc (.loop (rec .ready none))) := by
    rw [hrec]; exact run_enterLoop_outer _ _ _ _ _
  generalize (w.alloc (.deferred (some []))).alloc (.loop (rec .ready none)) = W1 at he hL hD hK1 hI1 hsz
  refine ⟨w.heap.size + 1, _, W1, { target := .fn (.func gf) lb, args := #[.func (.yield (w.heap.size + 1)) #[] #[]] }, W1, gf, #[.func (.yield (w.heap.size + 1)) #[] #[]] ++ lb, W1, he, ?_, ?_, ?_, fun _ => h1, ?_⟩
  · simp only [resolve, hg]
    simp [go_sem]
  · intro f' hf'; simp [Target.leads] at hf'; subst hf'; exact hFg
  · simp [invoke, go_sem, eg]
  -- the caller's invariant with the record and the block beside it
  obtain ⟨J, hJ⟩ : ∃ J : (World → Prop) → LoopState → Option Code → World → Prop, J = fun T st pe W => T W ∧ W.heap[w.heap.size + 1]? = some (.loop (rec st pe)) ∧ W.heap[w.heap.size]? = some (.deferred (some [])) := ⟨_, rfl⟩
  have same : ∀ {A B : World} {row : Option Nat} {k : Nat} {o : Obj}, A.grownBy B row → (∀ r, row = some r → r = b) → w.heap.size ≤ k → A.heap[k]? = some o → B.heap[k]? = some o := fun hg hr hk ho =>
    (hg.block _ (Array.getElem?_eq_some_iff.1 ho).1 (fun e => by have := hr _ e.symm; omega)).trans ho
  refine (hseq (w.heap.size + 1) (fun pre W => J (I pre) .ready none W) (fun pre W => ∃ c, J (Ix c pre) .done (some c) W) W1 hK1 ?_ ?_ ?_ ?_).mono ?_
  · rintro s A B row hs hg' hr
    rw [hJ] at hs ⊢
    exact ⟨hI s A B row hs.1 hg' (fun r e => .inl (hr r e)), same hg' hr (by omega) hs.2.1, same hg' hr (Nat.le_refl _) hs.2.2⟩
  · rintro s A B row ⟨c, hs⟩ hg' hr
    rw [hJ] at hs
    refine ⟨c, ?_⟩
    rw [hJ]
    exact ⟨hIx c s A B row hs.1 hg' (fun r e => .inl (hr r e)), same hg' hr (by omega) hs.2.1, same hg' hr (Nat.le_refl _) hs.2.2⟩
  · -- one round
    intro pre x W hs hlen
    rw [hJ] at hs
    obtain ⟨hi, hl, hk⟩ := hs
    have hlt : w.heap.size + 1 < W.heap.size := (Array.getElem?_eq_some_iff.1 hl).1
    have hy := run_yield (P := P) (args := encs x) hl (by rw [hrec]; exact hps x)
    rw [hrec] at hy
    refine ⟨fn, _, assign, body, hy, roundIn_of_wpIn hfn (hassign _ x W _ ⟨_, run_beginRound hl (by rw [hrec]), ?_⟩)⟩
    have turn : ∀ {A : World} {st : LoopState} {pe : Option Code} (o : Obj) {T : World → Prop}, (∀ B row, T A → A.grownBy B row → (∀ r, row = some r → r = b ∨ (w.heap.size ≤ r ∧ ∃ o : Obj, A.heap[r]? = some o ∧ o.isCells = false)) → T B) → T A → A.heap[w.heap.size + 1]? = some (.loop (rec st pe)) → T (A.putObj (w.heap.size + 1) o) := fun o T h ha hl' =>
      h _ (some (w.heap.size + 1)) ha (grownBy_putObj' _ _ o) (fun r e => by cases e; exact .inr ⟨by omega, _, hl', rfl⟩)
    have hl2 : (W.putObj (w.heap.size + 1) (.loop { rec .ready none with state := .busy })).heap[w.heap.size + 1]? = some (.loop (rec .busy none)) := by
      rw [World.putObj_heap_same hlt, hrec]
    have hk2 : (W.putObj (w.heap.size + 1) (.loop { rec .ready none with state := .busy })).heap[w.heap.size]? = some (.deferred (some [])) := (World.putObj_heap_other (by omega)).trans hk
    have hw2 : Kp W (W.putObj (w.heap.size + 1) (.loop { rec .ready none with state := .busy })) := hKg _ _ (some (w.heap.size + 1)) (by omega) (grownBy_putObj' _ _ _) (fun r e => by cases e; omega)
    have hi2 := turn (.loop { rec .ready none with state := .busy }) (fun B row h => hI pre W B row h) hi hl
    have hsz2 : (W.putObj (w.heap.size + 1) (.loop { rec .ready none with state := .busy })).heap.size = W.heap.size := by simp [World.putObj]
    generalize hW2 : W.putObj (w.heap.size + 1) (.loop { rec .ready none with state := .busy }) = W2 at hl2 hk2 hw2 hi2 hsz2
    have hb := hbody (w.heap.size + 1) pre x W2 hi2 hlen
    have hfin : ∀ (jump : Option Code) (W3 : World) (T : World → Prop), KeepsFrom w.heap.size W2 W3 → (∀ B row, T W3 → W3.grownBy B row → (∀ r, row = some r → r = b ∨ (w.heap.size ≤ r ∧ ∃ o : Obj, W3.heap[r]? = some o ∧ o.isCells = false)) → T B) → T W3 →
        (Instr.endRound (w.heap.size + 1) jump).run P W3 = .ok (.bool jump.isNone) (W3.putObj (w.heap.size + 1) (.loop (rec (if jump.isNone then .ready else .done) jump))) ∧
        J T (if jump.isNone then .ready else .done) jump (W3.putObj (w.heap.size + 1) (.loop (rec (if jump.isNone then .ready else .done) jump))) ∧
        w.heap.size ≤ W3.heap.size := fun jump W3 T hk3 hT ht => by
      have hl3 := hk3.same _ _ (by omega) hl2 rfl
      have hk4 := hk3.same _ _ (Nat.le_refl _) hk2 rfl
      have hr := run_endRound (P := P) jump hl3
      have hlt3 : w.heap.size + 1 < W3.heap.size := (Array.getElem?_eq_some_iff.1 hl3).1
      refine ⟨by rw [hr, hrec], ?_, by omega⟩
      rw [hJ]
      exact ⟨turn _ hT ht hl3, World.putObj_heap_same hlt3, (World.putObj_heap_other (by omega)).trans hk4⟩
    refine wpIn_mono hb ?_
    rintro e a3 W3 hp
    cases e with
    | normal =>
      obtain ⟨hk3, hkp3, hi3⟩ := hp
      obtain ⟨hr, hj, hz⟩ := hfin none W3 (I (pre ++ [x])) hk3 (fun B row h => hI _ W3 B row h) hi3
      exact ⟨_, _, hr, .inl ⟨rfl, hj, hKt (hKt hw2 hkp3) (hKg _ _ (some (w.heap.size + 1)) hz (grownBy_putObj' _ _ _) (fun r e => by cases e; omega))⟩⟩
    | ret =>
      obtain ⟨hr, hj, hz⟩ := hfin (some .ret) W3 (Ix .ret (pre ++ [x])) hp.1 (fun B row h => hIx _ _ W3 B row h) hp.2
      exact ⟨_, _, hr, .inr ⟨rfl, .ret, hj⟩⟩
    | exit id =>
      obtain ⟨hr, hj, hz⟩ := hfin (some (.exit id)) W3 (Ix (.exit id) (pre ++ [x])) hp.1 (fun B row h => hIx _ _ W3 B row h) hp.2
      exact ⟨_, _, hr, .inr ⟨rfl, .exit id, hj⟩⟩
    | goto t =>
      obtain ⟨hr, hj, hz⟩ := hfin (some (.goto t)) W3 (Ix (.goto t) (pre ++ [x])) hp.1 (fun B row h => hIx _ _ W3 B row h) hp.2
      exact ⟨_, _, hr, .inr ⟨rfl, .goto t, hj⟩⟩
    | panic ch => exact hp.elim
    | outgrown => exact hp.elim
  · rw [hJ]; exact ⟨hI1, hL, hD⟩
  · -- behind the iterator
    have last : ∀ {T : World → Prop} {st : LoopState} {pe : Option Code} {A : World}, (∀ B row, T A → A.grownBy B row → (∀ r, row = some r → r = b ∨ (w.heap.size ≤ r ∧ ∃ o : Obj, A.heap[r]? = some o ∧ o.isCells = false)) → T B) → J T st pe A → st ≠ .busy →
        ∃ A', (Instr.endLoop (w.heap.size + 1)).run P A = .ok pe A' ∧ T A' ∧ A'.heap[w.heap.size]? = some (.deferred (some [])) := fun {T st pe A} hT hj hb => by
      rw [hJ] at hj
      obtain ⟨ht, hl, hk⟩ := hj
      have := run_endLoop (P := P) hl (by rw [hrec]; exact hb)
      refine ⟨_, by rw [this, hrec], ?_, (World.putObj_heap_other (by omega)).trans hk⟩
      exact hT _ (some (w.heap.size + 1)) ht (grownBy_putObj' _ _ _) (fun r e => by cases e; exact .inr ⟨by omega, _, hl, rfl⟩)
    rintro e W2 ⟨⟨v, rfl⟩, (⟨xs, hS, hj⟩ | ⟨pre, hSp, c, hj⟩)⟩
    · obtain ⟨A', hr, hi, hk⟩ := last (fun B row h => hI xs W2 B row h) hj (by simp)
      exact ⟨none, A', hr, hdone _ xs _ (Nat.le_refl _) hS hi hk⟩
    · obtain ⟨A', hr, hi, hk⟩ := last (fun B row h => hIx c pre W2 B row h) hj (by simp)
      exact ⟨some c, A', hr, hstop _ c pre _ (Nat.le_refl _) hSp hi hk⟩
end Go.Proofs.YtcogehhjofgbiaaGreatDoor.seqBox
