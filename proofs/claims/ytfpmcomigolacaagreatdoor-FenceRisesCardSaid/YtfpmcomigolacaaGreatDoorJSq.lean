/-
  A loop over an iterator that keeps boxes of its own (splitSeq$1 stores the rest of the text): the iterator's contract, whose invariant also stays when the iterator's own block b turns, and the law of the loop over it. No number of a program.
  The frames of a file, by the iterator; parse.
-/
import Derived.RangeFuncNested
import Derived.RangeFuncBound
import Derived.RangeFuncCalls
import Derived.RangeFuncLeaves
import Derived.Below
import Derived.Test.YtfpmcomigolacaaGreatDoorJUw4
import Derived.RangeFuncBox
import Derived.Shelf.Abstract
import Derived.WalkKit
import Derived.OwnWalkIn
import Derived.TacticsInMore
import Derived.LoopNIn
import Derived.LoopIn
set_option linter.unusedSimpArgs false
set_option linter.unusedVariables false
namespace Go.Proofs.YtfpmcomigolacaaGreatDoor.seqBox
open Go Go.RowKit

variable {F : Fence} {n : Nat} {P : Program}

/-- A step of the iterator's own: new blocks, and block b. -/
def Lets {β : Type} (b : Nat) (J : β → World → Prop) : Prop :=
  ∀ s A B row, J s A → A.grownBy B row → (∀ r, row = some r → r = b) → J s B

/-- What the loop's own book-keeping and the iterator may turn: the caller's invariant stays. -/
def Rests {β : Type} (b B0 : Nat) (I : β → World → Prop) : Prop :=
  ∀ s A B row, I s A → A.grownBy B row → (∀ r, row = some r → r = b ∨ (B0 ≤ r ∧ ∃ o : Obj, A.heap[r]? = some o ∧ o.isCells = false)) → I s B

/-- The contract of an iterator that turns its own block b. -/
def SeqBox {α : Type} (F : Fence) (n : Nat) (P : Program) (g : Nat) (lb : Array Value) (b : Nat) (encs : α → Array Value) (Kp : World → World → Prop) (S Sp : List α → Prop) (Ok : List α → Prop) (w : World) : Prop :=
  ∀ (l : Nat) (J Jx : List α → World → Prop) (W : World), Kp w W → Lets b J → Lets b Jx →
    (∀ pre x W1, J pre W1 → Ok (pre ++ [x]) → YieldAt F (n - 1) P l (encs x) W1 fun e W' =>
      (e = .returned (.bool true) ∧ J (pre ++ [x]) W' ∧ Kp W1 W') ∨ (e = .returned (.bool false) ∧ Jx (pre ++ [x]) W')) →
    J [] W →
    CallsIn F n P g (#[.func (.yield l) #[] #[]] ++ lb) W fun e W' => (∃ v, e = .returned v) ∧ ((∃ xs, S xs ∧ J xs W') ∨ (∃ pre, Sp pre ∧ Jx pre W'))

/-- Where a body may leave from: its jump. -/
def jumpOf : Exit → Option (Option Code)
  | .normal => some none
  | .ret => some (some .ret)
  | .exit id => some (some (.exit id))
  | .goto t => some (some (.goto t))
  | _ => none

theorem wpIn_rangeBox {α : Type} {g : Operand} {ps : Array Tmp} {assign body : Code} {Q : Exit → Act → World → Prop} {a : Act} {w : World}
    (hro : F.round = none) (h1 : 1 ≤ n) {gf : Nat} {lb : Array Value} (hg : a.eval g = .func (.func gf) #[] lb) (hFg : F.fn gf) (eg : ∀ args w, (callFunc gf args).run P w = .ok (.enter gf args) w)
    {b : Nat} (hbw : b < w.heap.size) {encs : α → Array Value} {Kp : World → World → Prop} {S Sp : List α → Prop} {Ok : List α → Prop} {w0 : World} (hseq : SeqBox F (n - 1) P gf lb b encs Kp S Sp Ok w0)
    (hKt : ∀ {A B C : World}, Kp A B → Kp B C → Kp A C) (hKg : ∀ (A B : World) (row : Option Nat), w.heap.size ≤ A.heap.size → A.grownBy B row → (∀ r, row = some r → w.heap.size ≤ r) → Kp A B) (hK0 : Kp w0 w) (hps : ∀ x, (encs x).size = ps.size)
    (I : List α → World → Prop) (Ix : Code → List α → World → Prop) (hI : Rests b w.heap.size I) (hIx : ∀ c, Rests b w.heap.size (Ix c)) (h0 : I [] w) (a₁ : α → Act)
    (hassign : ∀ (l : Nat) (x : α) (W : World) (K : Act → World → Prop), K (a₁ x) W →
      assign.wpIn (F.inRound l) (n - 1 - 1) P (Exit.then K (fun _ _ _ => False)) { tmps := (ps.zip (encs x)).foldl (fun t (p, v) => t.setIfInBounds p v) a.tmps, defers := [] } W)
    (hbody : ∀ (l : Nat) (pre : List α) (x : α) (W : World), I pre W → Ok (pre ++ [x]) → body.wpIn (F.inRound l) (n - 1 - 1) P (ownPostG w.heap.size Kp I Ix (pre ++ [x]) W) (a₁ x) W)
    (hdone : ∀ (D : Nat) (xs : List α) (W : World), w.heap.size ≤ D → S xs → I xs W → W.heap[D]? = some (.deferred (some [])) → Q .normal { a with defers := { target := .collected D, args := #[] } :: a.defers } W)
    (hstop : ∀ (D : Nat) (c : Code) (pre : List α) (W : World), w.heap.size ≤ D → Sp pre → Ix c pre W → W.heap[D]? = some (.deferred (some [])) → c.wpIn F n P Q { a with defers := { target := .collected D, args := #[] } :: a.defers } W) :
    (Code.rangeFunc g ps assign body).wpIn F n P Q a w := by
  refine wpIn_rangeFunc fun fn hfn => ?_
  rw [hro]
  obtain ⟨rec, hrec⟩ : ∃ rec : LoopState → Option Code → Loop, rec = fun st pe => { state := st, pending := pe, fn, tmps := a.tmps, params := ps, assign, body, defers := w.heap.size } := ⟨_, rfl⟩
  have hg1 := World.grownBy_alloc w (.deferred (some [])) none
  have hg2 := World.grownBy_alloc (w.alloc (.deferred (some []))) (.loop (rec .ready none)) none
  have hL := World.alloc_heap_new (w.alloc (.deferred (some []))) (.loop (rec .ready none))
  rw [World.size_alloc] at hL
  have hD := (hg2.block w.heap.size (by simp) (by simp)).trans (World.alloc_heap_new w (.deferred (some [])))
  have hK1 : Kp w0 ((w.alloc (.deferred (some []))).alloc (.loop (rec .ready none))) :=
    hKt hK0 (hKt (hKg _ _ none (Nat.le_refl _) hg1 (fun r e => by cases e)) (hKg _ _ none (by simp) hg2 (fun r e => by cases e)))
  have hI1 := hI _ _ _ none (hI _ _ _ none h0 hg1 (fun r e => by cases e)) hg2 (fun r e => by cases e)
  have hsz : w.heap.size + 1 < ((w.alloc (.deferred (some []))).alloc (.loop (rec .ready none))).heap.size := by simp
  have he : (Instr.enterLoop fn a.tmps ps assign body none).run P w = .ok (w.heap.size + 1, [{ target := .collected w.heap.size, args := #[] }]) ((w.alloc (.deferred (some []))).alloc (.loop (rec .ready none))) := by
    rw [hrec]; exact run_enterLoop_outer _ _ _ _ _
  generalize (w.alloc (.deferred (some []))).alloc (.loop (rec .ready none)) = W1 at he hL hD hK1 hI1 hsz
  refine ⟨w.heap.size + 1, _, W1, { target := .fn (.func gf) lb, args := #[.func (.yield (w.heap.size + 1)) #[] #[]] }, W1, gf, #[.func (.yield (w.heap.size + 1)) #[] #[]] ++ lb, W1, he, ?_, ?_, ?_, fun _ => h1, ?_⟩
  · simp only [resolve, hg]
    simp [go_sem]
  · intro f' hf'; simp [Target.leads] at hf'; subst hf'; exact hFg
  · simp [invoke, go_sem, eg]
  -- the caller's invariant with the record and the block beside it
  obtain ⟨J, hJ⟩ : ∃ J : (World → Prop) → LoopState → Option Code → World → Prop, J = fun T st pe W => T W ∧ W.heap[w.heap.size + 1]? = some (.loop (rec st pe)) ∧ W.heap[w.heap.size]? = some (.deferred (some [])) := ⟨_, rfl⟩
  have same : ∀ {A B : World} {row : Option Nat} {k : Nat} {o : Obj}, A.grownBy B row → (∀ r, row = some r → r = b) → w.heap.size ≤ k → A.heap[k]? = some o → B.heap[k]? = some o := fun hg hr hk ho =>
    (hg.block _ (Array.getElem?_eq_some_iff.1 ho).1 (fun e => by have := hr _ e.symm; omega)).trans ho
  refine (hseq (w.heap.size + 1) (fun pre W => J (I pre) .ready none W) (fun pre W => ∃ c, J (Ix c pre) .done (some c) W) W1 hK1 ?_ ?_ ?_ ?_).mono ?_
  · rintro s A B row hs hg' hr
    rw [hJ] at hs ⊢
    exact ⟨hI s A B row hs.1 hg' (fun r e => .inl (hr r e)), same hg' hr (by omega) hs.2.1, same hg' hr (Nat.le_refl _) hs.2.2⟩
  · rintro s A B row ⟨c, hs⟩ hg' hr
    rw [hJ] at hs
    refine ⟨c, ?_⟩
    rw [hJ]
    exact ⟨hIx c s A B row hs.1 hg' (fun r e => .inl (hr r e)), same hg' hr (by omega) hs.2.1, same hg' hr (Nat.le_refl _) hs.2.2⟩
  · -- one round
    intro pre x W hs hlen
    rw [hJ] at hs
    obtain ⟨hi, hl, hk⟩ := hs
    have hlt : w.heap.size + 1 < W.heap.size := (Array.getElem?_eq_some_iff.1 hl).1
    have hy := run_yield (P := P) (args := encs x) hl (by rw [hrec]; exact hps x)
    rw [hrec] at hy
    refine ⟨fn, _, assign, body, hy, roundIn_of_wpIn hfn (hassign _ x W _ ⟨_, run_beginRound hl (by rw [hrec]), ?_⟩)⟩
    have turn : ∀ {A : World} {st : LoopState} {pe : Option Code} (o : Obj) {T : World → Prop}, (∀ B row, T A → A.grownBy B row → (∀ r, row = some r → r = b ∨ (w.heap.size ≤ r ∧ ∃ o : Obj, A.heap[r]? = some o ∧ o.isCells = false)) → T B) → T A → A.heap[w.heap.size + 1]? = some (.loop (rec st pe)) → T (A.putObj (w.heap.size + 1) o) := fun o T h ha hl' =>
      h _ (some (w.heap.size + 1)) ha (grownBy_putObj' _ _ o) (fun r e => by cases e; exact .inr ⟨by omega, _, hl', rfl⟩)
    have hl2 : (W.putObj (w.heap.size + 1) (.loop { rec .ready none with state := .busy })).heap[w.heap.size + 1]? = some (.loop (rec .busy none)) := by
      rw [World.putObj_heap_same hlt, hrec]
    have hk2 : (W.putObj (w.heap.size + 1) (.loop { rec .ready none with state := .busy })).heap[w.heap.size]? = some (.deferred (some [])) := (World.putObj_heap_other (by omega)).trans hk
    have hw2 : Kp W (W.putObj (w.heap.size + 1) (.loop { rec .ready none with state := .busy })) := hKg _ _ (some (w.heap.size + 1)) (by omega) (grownBy_putObj' _ _ _) (fun r e => by cases e; omega)
    have hi2 := turn (.loop { rec .ready none with state := .busy }) (fun B row h => hI pre W B row h) hi hl
    have hsz2 : (W.putObj (w.heap.size + 1) (.loop { rec .ready none with state := .busy })).heap.size = W.heap.size := by simp [World.putObj]
    generalize hW2 : W.putObj (w.heap.size + 1) (.loop { rec .ready none with state := .busy }) = W2 at hl2 hk2 hw2 hi2 hsz2
    have hb := hbody (w.heap.size + 1) pre x W2 hi2 hlen
    have hfin : ∀ (jump : Option Code) (W3 : World) (T : World → Prop), KeepsFrom w.heap.size W2 W3 → (∀ B row, T W3 → W3.grownBy B row → (∀ r, row = some r → r = b ∨ (w.heap.size ≤ r ∧ ∃ o : Obj, W3.heap[r]? = some o ∧ o.isCells = false)) → T B) → T W3 →
        (Instr.endRound (w.heap.size + 1) jump).run P W3 = .ok (.bool jump.isNone) (W3.putObj (w.heap.size + 1) (.loop (rec (if jump.isNone then .ready else .done) jump))) ∧
        J T (if jump.isNone then .ready else .done) jump (W3.putObj (w.heap.size + 1) (.loop (rec (if jump.isNone then .ready else .done) jump))) ∧
        w.heap.size ≤ W3.heap.size := fun jump W3 T hk3 hT ht => by
      have hl3 := hk3.same _ _ (by omega) hl2 rfl
      have hk4 := hk3.same _ _ (Nat.le_refl _) hk2 rfl
      have hr := run_endRound (P := P) jump hl3
      have hlt3 : w.heap.size + 1 < W3.heap.size := (Array.getElem?_eq_some_iff.1 hl3).1
      refine ⟨by rw [hr, hrec], ?_, by omega⟩
      rw [hJ]
      exact ⟨turn _ hT ht hl3, World.putObj_heap_same hlt3, (World.putObj_heap_other (by omega)).trans hk4⟩
    refine wpIn_mono hb ?_
    rintro e a3 W3 hp
    cases e with
    | normal =>
      obtain ⟨hk3, hkp3, hi3⟩ := hp
      obtain ⟨hr, hj, hz⟩ := hfin none W3 (I (pre ++ [x])) hk3 (fun B row h => hI _ W3 B row h) hi3
      exact ⟨_, _, hr, .inl ⟨rfl, hj, hKt (hKt hw2 hkp3) (hKg _ _ (some (w.heap.size + 1)) hz (grownBy_putObj' _ _ _) (fun r e => by cases e; omega))⟩⟩
    | ret =>
      obtain ⟨hr, hj, hz⟩ := hfin (some .ret) W3 (Ix .ret (pre ++ [x])) hp.1 (fun B row h => hIx _ _ W3 B row h) hp.2
      exact ⟨_, _, hr, .inr ⟨rfl, .ret, hj⟩⟩
    | exit id =>
      obtain ⟨hr, hj, hz⟩ := hfin (some (.exit id)) W3 (Ix (.exit id) (pre ++ [x])) hp.1 (fun B row h => hIx _ _ W3 B row h) hp.2
      exact ⟨_, _, hr, .inr ⟨rfl, .exit id, hj⟩⟩
    | goto t =>
      obtain ⟨hr, hj, hz⟩ := hfin (some (.goto t)) W3 (Ix (.goto t) (pre ++ [x])) hp.1 (fun B row h => hIx _ _ W3 B row h) hp.2
      exact ⟨_, _, hr, .inr ⟨rfl, .goto t, hj⟩⟩
    | panic ch => exact hp.elim
    | outgrown => exact hp.elim
  · rw [hJ]; exact ⟨hI1, hL, hD⟩
  · -- behind the iterator
    have last : ∀ {T : World → Prop} {st : LoopState} {pe : Option Code} {A : World}, (∀ B row, T A → A.grownBy B row → (∀ r, row = some r → r = b ∨ (w.heap.size ≤ r ∧ ∃ o : Obj, A.heap[r]? = some o ∧ o.isCells = false)) → T B) → J T st pe A → st ≠ .busy →
        ∃ A', (Instr.endLoop (w.heap.size + 1)).run P A = .ok pe A' ∧ T A' ∧ A'.heap[w.heap.size]? = some (.deferred (some [])) := fun {T st pe A} hT hj hb => by
      rw [hJ] at hj
      obtain ⟨ht, hl, hk⟩ := hj
      have := run_endLoop (P := P) hl (by rw [hrec]; exact hb)
      refine ⟨_, by rw [this, hrec], ?_, (World.putObj_heap_other (by omega)).trans hk⟩
      exact hT _ (some (w.heap.size + 1)) ht (grownBy_putObj' _ _ _) (fun r e => by cases e; exact .inr ⟨by omega, _, hl, rfl⟩)
    rintro e W2 ⟨⟨v, rfl⟩, (⟨xs, hS, hj⟩ | ⟨pre, hSp, c, hj⟩)⟩
    · obtain ⟨A', hr, hi, hk⟩ := last (fun B row h => hI xs W2 B row h) hj (by simp)
      exact ⟨none, A', hr, hdone _ xs _ (Nat.le_refl _) hS hi hk⟩
    · obtain ⟨A', hr, hi, hk⟩ := last (fun B row h => hIx c pre W2 B row h) hj (by simp)
      exact ⟨some c, A', hr, hstop _ c pre _ (Nat.le_refl _) hSp hi hk⟩
end Go.Proofs.YtfpmcomigolacaaGreatDoor.seqBox
set_option linter.unusedSimpArgs false
set_option linter.unusedVariables false
namespace Go.Proofs.YtfpmcomigolacaaGreatDoor.wal
open Go.RowKit Go.Shelf Go.Proofs.YtfpmcomigolacaaGreatDoor.words Go.Proofs.YtfpmcomigolacaaGreatDoor.seqBox Go.Proofs.YtfpmcomigolacaaGreatDoor.opened Go.Proofs.YtfpmcomigolacaaGreatDoor.block
attribute [local go_sem] Oper.semAt_some

/-- Where each intact frame ends, and its text; o: where the first one begins. -/
def endsF : Nat → Bs → Nat → List (Nat × Bs)
  | 0, _, _ => []
  | f + 1, s, o => if (unfV s).2.2 = true then (o + (unfV s).2.1, (unfV s).1) :: endsF f (s.drop (unfV s).2.1) (o + (unfV s).2.1) else []
def endsV (s : Bs) : List (Nat × Bs) := endsF (s.length + 1) s 0
theorem ends_more : ∀ (f k : Nat) (s : Bs) (o : Nat), s.length < f → s.length < k → endsF f s o = endsF k s o
  | 0, _, _, _, h, _ => by omega
  | _ + 1, 0, _, _, _, h => by omega
  | f + 1, k + 1, s, o, h1, h2 => by
    unfold endsF
    by_cases e : (unfV s).2.2 = true
    · have hp := unf_pos e
      rw [if_pos e, if_pos e, ends_more f k (s.drop (unfV s).2.1) _ (by simp; omega) (by simp; omega)]
    · rw [if_neg e, if_neg e]
theorem ends_frs : ∀ (f : Nat) (s : Bs) (o : Nat), (endsF f s o).map Prod.snd = (frsF f s).1 ∧ ((endsF f s o).getLast?.map Prod.fst).getD o = o + (frsF f s).2
  | 0, _, _ => ⟨rfl, rfl⟩
  | f + 1, s, o => by
    unfold endsF frsF
    by_cases e : (unfV s).2.2 = true
    · rw [if_pos e, if_pos e]
      obtain ⟨h1, h2⟩ := ends_frs f (s.drop (unfV s).2.1) (o + (unfV s).2.1)
      refine ⟨by rw [List.map_cons, h1], ?_⟩
      rw [List.getLast?_cons]
      dsimp only
      cases hl : (endsF f (s.drop (unfV s).2.1) (o + (unfV s).2.1)).getLast? with
      | none =>
        rw [hl] at h2
        simp at h2 ⊢
        omega
      | some x =>
        rw [hl] at h2
        simp at h2 ⊢
        omega
    · rw [if_neg e, if_neg e]
      exact ⟨rfl, rfl⟩
theorem ends_all (s : Bs) : (endsV s).map Prod.snd = (frsV s).1 ∧ ((endsV s).getLast?.map Prod.fst).getD 0 = (frsV s).2 := by
  obtain ⟨h1, h2⟩ := ends_frs (s.length + 1) s 0
  exact ⟨h1, by rw [Nat.zero_add] at h2; exact h2⟩
theorem ends_bd : ∀ (f : Nat) (s : Bs) (o : Nat), ∀ x ∈ endsF f s o, x.1 ≤ o + s.length
  | 0, _, _, x, h => by cases h
  | f + 1, s, o, x, h => by
    unfold endsF at h
    by_cases e : (unfV s).2.2 = true
    · have hp := unf_pos e
      rw [if_pos e] at h
      rcases List.mem_cons.1 h with rfl | h
      · show o + _ ≤ _
        omega
      · have := ends_bd f (s.drop (unfV s).2.1) _ x h
        simp at this
        omega
    · rw [if_neg e] at h
      cases h
theorem ends_len : ∀ (f : Nat) (s : Bs) (o : Nat), (endsF f s o).length ≤ s.length
  | 0, _, _ => Nat.zero_le _
  | f + 1, s, o => by
    unfold endsF
    by_cases e : (unfV s).2.2 = true
    · have hp := unf_pos e
      rw [if_pos e]
      have := ends_len f (s.drop (unfV s).2.1) (o + (unfV s).2.1)
      simp at this ⊢
      omega
    · rw [if_neg e]
      simp
theorem ext_drop (r : Bs) (k : Nat) : (⟨r.toArray⟩ : ByteArray).extract k r.length = ⟨(r.drop k).toArray⟩ := by
  apply ByteArray.ext; simp [List.take_of_length_le]

theorem cell_lt' {w : World} {g i : Nat} {v : Value} (h : w.cell? ⟨g, i, none⟩ = some v) : g < w.heap.size := by
  rcases Nat.lt_or_ge g w.heap.size with q | q
  · exact q
  · unfold World.cell? at h
    rw [Array.getElem?_eq_none q] at h
    cases h
set_option maxRecDepth 100000 in
set_option maxHeartbeats 2000000 in
theorem frames_box (n : Nat) (hn : 3 ≤ n) (b : Nat) (s : Bs) (hlen : s.length ≤ 1000000) (Kp : World → World → Prop) (hKp : ∀ X Y, Kp X Y → Y.heap[b]? = X.heap[b]?) (w : World) (hs : w.cell? ⟨b, 0, none⟩ = some (sV s)) :
    SeqBox Fence.wide n Tryz.prog 112 #[.pointer (some ⟨b, 0, none⟩)] b (fun x : Nat × Bs => #[.int .i64 (x.1 : Int), sV x.2]) Kp
      (fun xs => xs = endsV s) (fun pre => pre <+: endsV s) (fun pre => pre <+: endsV s) w := by
  intro l J Jx W hK hJ hJx hY h0
  have cK : ∀ {X Y : World} {v : Value}, Y.heap[b]? = X.heap[b]? → X.cell? ⟨b, 0, none⟩ = some v → Y.cell? ⟨b, 0, none⟩ = some v := fun h hc => (World.cell?_of_block (a := ⟨b, 0, none⟩) h).trans hc
  have hs1 := cK (hKp _ _ hK) hs
  refine callsIn_of_wp Tryz.func112 rfl trivial ?_ rfl
  simp only [Tryz.ntmps112, List.size_toArray, List.length_cons, List.length_nil, Nat.reduceAdd, Nat.reduceSub, Array.replicate_succ, Array.replicate_zero, List.push_toArray, List.append_toArray, List.nil_append, List.cons_append]
  gi_wp2
  gi_loopw [3, 4, 5, 6] (fun e _ _ _ wr => ∃ (pre : List (Nat × Bs)) (o : Nat), o ≤ s.length ∧ e = .int .i64 (o : Int) ∧ Hid (endsV s = pre ++ endsF (s.length - o + 1) (s.drop o) o) ∧ wr.cell? ⟨b, 0, none⟩ = some (sV s) ∧ J pre wr)
    (fun e _ _ _ _ => s.length - (intOf e).toNat)
  case atStart => exact ⟨[], 0, Nat.zero_le _, rfl, Lib.hid rfl, hs1, h0⟩
  case round =>
    obtain ⟨pre, o, ho, rfl, hc, hsr, hj⟩ := hrel
    have h1n : 1 ≤ n := by omega
    have HI := Lib.hid (unframe_any (s.drop o) (by simp; omega) wr)
    rw [← ext_drop s o] at HI
    have hblt := cell_lt' hsr
    cases hok : (unfV (s.drop o)).2.2 with
    | false =>
      rw [hok] at HI
      have he : endsV s = pre := by rw [hc.out, endsF, if_neg (by rw [hok]; simp), List.append_nil]
      gi_wp2_with (refine ⟨trivial, ?_⟩; gi_at_call 113; refine (callsIn_wide.2 HI.out).mono ?_; rintro e w4 ⟨rfl, b4⟩; have J4 := hJ _ _ _ none hj (only_of_below b4 none) (fun r e => by cases e))
      refine bodyPost_ret (results_none rfl _ _ _) rfl ?_
      exact ⟨⟨_, rfl⟩, .inl ⟨pre, he.symm, J4⟩⟩
    | true =>
      rw [hok] at HI
      have hp := unf_pos hok
      have hd : (s.drop o).length = s.length - o := by simp
      rw [hd] at hp
      have hst : endsF (s.length - o + 1) (s.drop o) o = (o + (unfV (s.drop o)).2.1, (unfV (s.drop o)).1) :: endsF (s.length - (o + (unfV (s.drop o)).2.1) + 1) (s.drop (o + (unfV (s.drop o)).2.1)) (o + (unfV (s.drop o)).2.1) := by
        rw [endsF, if_pos hok, List.drop_drop]
        congr 1
        exact ends_more _ _ _ _ (by simp; omega) (by simp)
      have hc' : Hid (endsV s = pre ++ (o + (unfV (s.drop o)).2.1, (unfV (s.drop o)).1) :: endsF (s.length - (o + (unfV (s.drop o)).2.1) + 1) (s.drop (o + (unfV (s.drop o)).2.1)) (o + (unfV (s.drop o)).2.1)) := Lib.hid (by rw [hc.out, hst])
      clear hst hok hd hc
      generalize (unfV (s.drop o)).2.1 = m at HI hp hc'
      generalize (unfV (s.drop o)).1 = t at HI hc'
      have hom : o + m ≤ s.length := by omega
      have hoi : (s.length : Int) ≤ 1000000 := by omega
      have hpre : Hid (pre ++ [(o + m, t)] <+: endsV s) := Lib.hid (by rw [hc'.out]; exact ⟨_, by rw [List.append_assoc]; rfl⟩)
      gi_wp2_with (refine ⟨trivial, ?_⟩; gi_at_call 113; refine (callsIn_wide.2 HI.out).mono ?_; rintro e w4 ⟨rfl, b4⟩; have J4 := hJ _ _ _ none hj (only_of_below b4 none) (fun r e => by cases e); have c4 := cK (b4.block b hblt) hsr; obtain ⟨fn, tmps, assign, body, hy, hR⟩ := hY pre (o + m, t) w4 J4 hpre.out; dsimp only at hy; rw [show ((o + m : Nat) : Int) = (o : Int) + (m : Int) from by omega] at hy)
      refine hR.mono ?_
      rintro e W3 (⟨rfl, hJ3, hk3⟩ | ⟨rfl, hJx3⟩)
      · have c3 := cK (hKp _ _ hk3) c4
        gi_wp2
        exact ⟨⟨pre ++ [(o + m, t)], o + m, hom, by congr 1, Lib.hid (by rw [hc'.out, List.append_assoc]; rfl), c3, hJ3⟩, by simp [intOf]; omega⟩
      · gi_wp2
        refine bodyPost_ret (results_none rfl _ _ _) rfl ?_
        exact ⟨⟨_, rfl⟩, .inr ⟨_, hpre.out, hJx3⟩⟩

/-- Where the last one ends. -/
def lastE (pre : List (Nat × Bs)) : Nat := (pre.getLast?.map Prod.fst).getD 0
theorem last_snoc (pre : List (Nat × Bs)) (x : Nat × Bs) : lastE (pre ++ [x]) = x.1 := by simp [lastE]
theorem frames_any (s : Bs) (w : World) : Calls Tryz.prog 88 #[sV s] w fun e w' =>
    e = .returned (.func (.func 112) #[] #[.pointer (some ⟨w.heap.size, 0, none⟩)]) ∧ w' = w.alloc (.cells #[sV s] 9) := by
  go_enter Tryz.func88, Tryz.ntmps88
  go_wp2_with fail
  go_ret
  exact ⟨rfl, rfl⟩
/-- Between two rounds of parse. -/
def Par (n0 : Nat) (w : World) (pre : List (Nat × Bs)) (W : World) : Prop :=
  ∃ v, Boxed W n0 45 v ∧ Boxed W (n0 + 1) 3 (.int .i64 (lastE pre : Int)) ∧ OwnS W (n0 + 3) v (pre.map Prod.snd) ∧ Below n0 w W ∧ n0 + 3 ≤ W.heap.size
theorem par_rests {n0 : Nat} {w : World} (hw : n0 = w.heap.size) : Rests (n0 + 2) (n0 + 3) (Par n0 w) := by
  rintro s A B row ⟨v, b2, b3, ho, hb, hz⟩ hg hr
  have ne : ∀ k, k < n0 + 2 → some k ≠ row := fun k hk e => by
    rcases hr k e.symm with h | ⟨h, -⟩ <;> omega
  refine ⟨v, b2.kept hg (ne _ (by omega)), b3.kept hg (ne _ (by omega)), own_same ho fun k hk => hg.block k ?_ fun e => ?_, hb.grown hg (by have := b2.lt; omega) (fun k e => by rcases hr k e with h | ⟨h, -⟩ <;> omega), Nat.le_trans hz hg.size⟩
  · obtain ⟨cs, q⟩ := own_type ho hk
    exact q.inside
  · rcases hr k e.symm with h | ⟨-, o, hk2, hc⟩
    · have := (ho.lt k hk).1
      omega
    · obtain ⟨cs, q⟩ := own_type ho hk
      rw [q] at hk2
      cases hk2
      cases hc
theorem start3 (w : World) (s : Bs) : ∀ W0, W0 = (((w.alloc (.cells #[.slice none 0 0] 45)).alloc (.cells #[.int .i64 0] 3)).alloc (.cells #[sV s] 9)) →
    W0.heap.size = w.heap.size + 3 ∧ Boxed W0 w.heap.size 45 (.slice none 0 0) ∧ Boxed W0 (w.heap.size + 1) 3 (.int .i64 0) ∧ Boxed W0 (w.heap.size + 2) 9 (sV s) ∧ Below w.heap.size w W0 := by
  intro W0 h0
  have step : ∀ (W : World) (k : Nat) (t : TypeId) (v : Value), W.heap.size = k → Boxed (W.alloc (.cells #[v] t)) k t v ∧ (W.alloc (.cells #[v] t)).heap.size = k + 1 := fun W k t v h => ⟨h ▸ Boxed.new W t v, by simp [h]⟩
  obtain ⟨b0, z0⟩ := step w _ 45 (.slice none 0 0) rfl
  obtain ⟨b1, z1⟩ := step _ _ 3 (.int .i64 0) z0
  obtain ⟨b2, z2⟩ := step _ _ 9 (sV s) z1
  subst h0
  exact ⟨z2, (b0.alloc _).alloc _, b1.alloc _, b2, (((Below.refl w.heap.size w).alloc (Nat.le_refl _) _).alloc (by omega) _).alloc (by omega) _⟩
theorem par_add {n0 : Nat} {w W w6 : World} {X : Obj} {pre : List (Nat × Bs)} {x : Nat × Bs} {v : Value} {g m cap : Nat} (hn0 : n0 = w.heap.size) (T2 : Boxed W n0 45 v) (T3 : Boxed W (n0 + 1) 3 (.int .i64 (lastE pre : Int))) (hb : Below n0 w W) (hz : n0 + 3 ≤ W.heap.size)
    (ho : OwnS W (n0 + 3) v (pre.map Prod.snd)) (hm : (pre.map Prod.snd).length = m) (hg : (W.alloc X).grownBy w6 v.ownBlock) (ho' : w6.ownsRow (n0 + 3) 9 1 (.slice (some ⟨g, 0, none⟩) (m + 1) cap) (m + 1) ((pre.map Prod.snd).map sV ++ [sV x.2])) :
    KeepsFrom (n0 + 3) W ((w6.setCell ⟨n0, 0, none⟩ (.slice (some ⟨g, 0, none⟩) (m + 1) cap)).setCell ⟨n0 + 1, 0, none⟩ (.int .i64 (x.1 : Int))) ∧ ((w6.setCell ⟨n0, 0, none⟩ (.slice (some ⟨g, 0, none⟩) (m + 1) cap)).setCell ⟨n0 + 1, 0, none⟩ (.int .i64 (x.1 : Int))).heap[n0 + 2]? = W.heap[n0 + 2]? ∧
      Par n0 w (pre ++ [x]) ((w6.setCell ⟨n0, 0, none⟩ (.slice (some ⟨g, 0, none⟩) (m + 1) cap)).setCell ⟨n0 + 1, 0, none⟩ (.int .i64 (x.1 : Int))) := by
  have g1 := World.grownBy_alloc W X none
  have s1 : W.heap.size ≤ (W.alloc X).heap.size := g1.size
  have s2 := hg.size
  have hlo : ∀ r, v.ownBlock = some r → n0 + 3 ≤ r := fun r e => (ho.lt r e).1
  have ne : ∀ k, k < n0 + 3 → some k ≠ v.ownBlock := fun k hk e => by have := hlo k e.symm; omega
  have gs := grownBy_setCell' w6 n0 (.slice (some ⟨g, 0, none⟩) (m + 1) cap)
  have gt := grownBy_setCell' (w6.setCell ⟨n0, 0, none⟩ (.slice (some ⟨g, 0, none⟩) (m + 1) cap)) (n0 + 1) (.int .i64 (x.1 : Int))
  have B2 : Boxed w6 n0 45 v := (T2.alloc X).kept hg (ne _ (by omega))
  have B3 : Boxed w6 (n0 + 1) 3 (.int .i64 (lastE pre : Int)) := (T3.alloc X).kept hg (ne _ (by omega))
  have hgl := (ho'.lt g rfl).1
  refine ⟨?_, ?_, _, (B2.set _).kept gt (by simp), ?_, ?_, ?_, ?_⟩
  · refine KeepsFrom.trans ((KeepsOthers.alloc W X).from _) (KeepsFrom.trans ?_ (((KeepsOthers.setCell _ _ _).trans (KeepsOthers.setCell _ _ _)).from _))
    refine (KeepsOthers.of_grownBy hg fun j o ej hj => ?_).from _
    obtain ⟨cs, q⟩ := own_type ho ej
    have hj2 := (World.grownBy_alloc W X none).block j q.inside (by simp)
    rw [hj2] at hj
    have q2 : W.heap[j]? = some (.cells cs 9 (0, 0)) := q
    rw [q2] at hj
    cases hj
    rfl
  · exact (gt.block (n0 + 2) (by have := gs.size; omega) (by simp)).trans ((gs.block (n0 + 2) (by omega) (by simp)).trans ((hg.block (n0 + 2) (by omega) (ne _ (by omega))).trans (g1.block (n0 + 2) (by omega) (by simp))))
  · rw [last_snoc]
    exact (B3.kept gs (by simp)).set _
  · have e1 : (pre ++ [x]).map Prod.snd = pre.map Prod.snd ++ [x.2] := by simp
    have e2 : (pre.map Prod.snd ++ [x.2]).length = m + 1 := by rw [List.length_append, hm]; rfl
    have e3 : (pre.map Prod.snd ++ [x.2]).map sV = (pre.map Prod.snd).map sV ++ [sV x.2] := by rw [List.map_append]; rfl
    show World.ownsRow _ _ _ _ _ ((pre ++ [x]).map Prod.snd).length (((pre ++ [x]).map Prod.snd).map sV)
    rw [e1, e2, e3]
    refine own_same ho' fun k hk => ?_
    obtain rfl : g = k := by simpa [Value.ownBlock] using hk
    have hlt := (ho'.lt g rfl).2
    exact (gt.block g (by have := gs.size; omega) (by simp; omega)).trans (gs.block g hlt (by simp; omega))
  · exact (((hb.alloc (by omega) X).grown hg (by omega) (fun k e => by have := hlo k e; omega)).setCell (p := ⟨n0, 0, none⟩) (Nat.le_refl _) _).setCell (p := ⟨n0 + 1, 0, none⟩) (by simp) _
  · have := gs.size
    have := gt.size
    omega
set_option maxRecDepth 100000 in
set_option maxHeartbeats 4000000 in
theorem parse_any (s : Bs) (hlen : s.length ≤ 1000000) (w : World) :
    Calls Tryz.prog 59 #[sV s] w fun e w' => ∃ A c, e = .returned (.tuple #[.slice A (frsV s).1.length c, .bool (decide ((frsV s).2 < s.length))]) ∧ OwnS w' w.heap.size (.slice A (frsV s).1.length c) (frsV s).1 ∧ Below w.heap.size w w' := by
  refine (callsIn_wide (n := 6)).1 ?_
  refine callsIn_of_wp_marks Tryz.func59 rfl trivial ?_ rfl
  simp only [Tryz.ntmps59, List.size_toArray, List.length_cons, List.length_nil, Nat.reduceAdd, Nat.reduceSub, Array.replicate_succ, Array.replicate_zero, List.push_toArray, List.append_toArray, List.nil_append, List.cons_append]
  gi_wp2_with (refine ⟨trivial, ?_⟩; gi_at_call 88; refine (callsIn_wide.2 (frames_any s _)).mono ?_; rintro e w' ⟨rfl, rfl⟩)
  obtain ⟨z, S2, S3, S4, SB⟩ := start3 w s _ rfl
  generalize (((w.alloc (.cells #[.slice none 0 0] 45)).alloc (.cells #[.int .i64 0] 3)).alloc (.cells #[sV s] 9)) = W0 at z S2 S3 S4 SB ⊢
  refine wpIn_rangeBox (n := 6) (b := w.heap.size + 2) (Kp := fun X Y => Y.heap[w.heap.size + 2]? = X.heap[w.heap.size + 2]?) rfl (by omega) (gf := 112) rfl trivial (enters_of Tryz.func112 (by kernel_rfl) rfl) (by omega)
    (frames_box 5 (by omega) (w.heap.size + 2) s hlen _ (fun X Y h => h) W0 S4.cell)
    (fun h k => k.trans h) (fun A B row hA hg hr => hg.block _ (by omega) (fun e => by have := hr _ e.symm; omega)) rfl (fun _ => rfl)
    (Par w.heap.size w) (fun _ _ _ => False) (z ▸ par_rests rfl) (fun _ _ _ _ _ hf _ _ => hf) ⟨_, S2, S3, World.ownsRow_nil _ _ _ _, SB, by omega⟩ (fun x => { tmps := #[sV s, undef, .slice none 0 0, .bool false, .pointer (some ⟨w.heap.size, 0, none⟩), .pointer (some ⟨w.heap.size + 1, 0, none⟩), .int .i64 (x.1 : Int), sV x.2, sV s,
      .func (.func 112) #[] #[.pointer (some ⟨w.heap.size + 2, 0, none⟩)], .int .i64 (x.1 : Int), sV x.2, undef, undef, undef, undef, undef, undef, undef, undef, undef, undef], defers := [] }) ?assign ?body ?done ?stop
  case assign =>
    intro l x W K hK
    gi_wp2
    exact hK
  case body =>
    rintro l pre x W ⟨v, T2, T3, ho, hb, hz⟩ hok
    obtain ⟨i0, hi, hz0, hz1, hz2⟩ := infoS_parts
    obtain ⟨A, c, rfl⟩ := own_shape ho
    have hpl : pre.length ≤ 1000000 := by
      have h1 := hok.length_le
      have h2 := ends_len (s.length + 1) s 0
      unfold endsV at h1
      rw [List.length_append] at h1
      omega
    have hml : (pre.map Prod.snd).length = pre.length := by simp
    have HM := Lib.hid hml
    have HO : Hid (OwnS W (w.heap.size + 3) (.slice A pre.length c) (pre.map Prod.snd)) := Lib.hid (by have := ho; rwa [hml] at this)
    rw [hml] at T2
    have c2 := T2.cell
    have f2 := T2.frozen
    have c3 := T3.cell
    have f3 := T3.frozen
    replace ho : W.ownsRow (w.heap.size + 3) 9 1 (.slice A pre.length c) pre.length ((pre.map Prod.snd).map sV) := by
      unfold OwnS at ho
      rw [hml] at ho
      exact ho
    have hls : ((pre.map Prod.snd).map sV).length = pre.length := by simp
    have hn4 : (45 : TypeId) ≠ 9 := by decide
    have hn5 : (3 : TypeId) ≠ 9 := by decide
    have nr2 : some w.heap.size ≠ (Value.slice A pre.length c).ownBlock := T2.not_row hn4 ho
    have nr3 : some (w.heap.size + 1) ≠ (Value.slice A pre.length c).ownBlock := T3.not_row hn5 ho
    clear hml
    have hone : ∀ u ∈ [sV x.2], u.oneCell' = true := fun u hu => by rw [List.mem_singleton] at hu; subst hu; rfl
    have hmx : pre.length + 1 ≤ maxLen := by unfold maxLen; omega
    have hby : (pre.length + 1) * 16 ≤ 140737488355328 := by omega
    have hbs : w.heap.size + 3 ≤ (W.alloc (.cells #[sV x.2] 9)).heap.size := by rw [World.size_alloc]; omega
    gi_wp2_with (gi_at_builtin; refine wpListIn_append_own _ rfl _ _ 45 rfl (w.heap.size + 3) 9 i0 (.string ByteArray.empty) 1 16 Tryz.underlying45 hi hz0 hz1 hz2 rfl (by decide) _ pre.length ((pre.map Prod.snd).map sV) rfl (ho.alloc _) ⟨W.heap.size, 0, none⟩ 1 1 [sV x.2] rfl rfl (cell_one_new _ _ _) hone hmx hby hbs ?_; intro v' w6 hown' hgrow _; obtain ⟨g', cap', rfl⟩ := ownsRow_succ hown'; have V2 := (T2.alloc (.cells #[sV x.2] 9)).kept hgrow nr2; have V3 := (T3.alloc (.cells #[sV x.2] 9)).kept hgrow nr3; have v2 := V2.cell; have vf2 := V2.frozen; have V3' := V3.kept (grownBy_setCell' w6 w.heap.size (.slice (some ⟨g', 0, none⟩) (pre.length + 1) cap')) (by simp); have v3 := V3'.cell; have vf3 := V3'.frozen)
    rw [z]
    exact par_add rfl T2 T3 hb hz HO.out HM.out hgrow hown'
  case done =>
    rintro Dk xs W hD rfl ⟨v, T2, T3, ho, hb, hz⟩ hK
    obtain ⟨A, c, rfl⟩ := own_shape ho
    obtain ⟨e1, e2⟩ := ends_all s
    have e3 : lastE (endsV s) = (frsV s).2 := e2
    rw [e1] at T2 ho
    rw [e3] at T3
    have HD : Hid (decide (((frsV s).2 : Int) < (s.length : Int)) = decide ((frsV s).2 < s.length)) := Lib.hid (by rw [decide_eq_decide]; omega)
    clear e1 e2 e3
    obtain ⟨m, hm⟩ : ∃ m, (frsV s).2 = m := ⟨_, rfl⟩
    obtain ⟨N, hN⟩ : ∃ N, (frsV s).1 = N := ⟨_, rfl⟩
    rw [hm] at T3 HD
    rw [hN] at T2 ho
    have Hm := Lib.hid hm
    have HN := Lib.hid hN
    clear hm hN
    have c2 := T2.cell
    have c3 := T3.cell
    have f2 := T2.frozen
    have f3 := T3.frozen
    gi_wp2
    gi_region
    gi_wp2
    have g3 := grownBy_putObj' W.drew Dk (.deferred none)
    refine ⟨by simp, .inl ⟨_, _, rfl, run_takeDeferred hK, ?_⟩⟩
    refine ⟨_, results_tmp2 rfl _ _ _, A, c, ?_, ?_, ?_⟩
    · rw [HN.out, Hm.out]
      rfl
    · rw [HN.out]
      have h1 := ownsRow_putObj (World.ownsRow.drew ho) (.deferred none) hK rfl
      exact own_low h1 fun k hk => by have := (h1.lt k hk).1; omega
    · exact hb.drew.grown g3 (show w.heap.size ≤ W.heap.size from hb.size) (fun k e => by cases e; omega)
  case stop =>
    rintro Dk c pre W hD hpre hf hK
    exact hf.elim
end Go.Proofs.YtfpmcomigolacaaGreatDoor.wal
