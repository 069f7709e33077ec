/-
  The names of a log's files, and their numbers.
  A region that draws its order: its first operations read, or call what makes memory at most, in whatever order; its last ones wait for all of these, one behind the other, and may write. No number of a program.
  The contracts of a log's small functions: Files, Base, Next, nextFile, Synced, file, note, Get, closed, isPast.
-/
import Derived.Test.YtfpmcomigolacaaGreatDoorJNw
import Derived.StillTail
import Derived.Deep.Quiet
import Derived.Below
import Derived.Test.YtfpmcomigolacaaGreatDoorJUk0
import Derived.Test.YtfpmcomigolacaaGreatDoorJLayL
import Derived.Test.YtfpmcomigolacaaGreatDoorJSeal
import Derived.Deep.QuietTactic
import Derived.BigQuiet
set_option linter.unusedSimpArgs false
set_option linter.unusedVariables false
namespace Go.Proofs.YtfpmcomigolacaaGreatDoor.wal
open Go.Proofs.YtfpmcomigolacaaGreatDoor.enc Go.Proofs.YtfpmcomigolacaaGreatDoor.code Go.Proofs.YtfpmcomigolacaaGreatDoor.crcm Go.Proofs.YtfpmcomigolacaaGreatDoor.words Go.Proofs.YtfpmcomigolacaaGreatDoor.disk

theorem itoa_inj {j k : Int} (h0 : 0 ≤ j) (h1 : j ≤ 1000000) (h2 : 0 ≤ k) (h3 : k ≤ 1000000) (h : Lib.itoa j = Lib.itoa k) : j = k := by
  have a := sg_itoa j (by omega) (by omega)
  have b := sg_itoa k (by omega) (by omega)
  rw [h, b] at a
  exact (Option.some.inj a).symm
theorem fn_inj {nm : Bs} {j k : Int} (h0 : 0 ≤ j) (h1 : j ≤ 1000000) (h2 : 0 ≤ k) (h3 : k ≤ 1000000) (h : fn nm j = fn nm k) : j = k := itoa_inj h0 h1 h2 h3 (List.append_cancel_left h)
theorem pre_fn (nm : Bs) (k : Int) : Lib.hasPrefix (fn nm k) nm = true ∧ Lib.trimPrefix (fn nm k) nm = Lib.itoa k := by
  have h : Lib.hasPrefix (fn nm k) nm = true := by
    unfold Lib.hasPrefix fn
    rw [List.isPrefixOf_iff_prefix]
    exact List.prefix_append _ _
  refine ⟨h, ?_⟩
  unfold Lib.trimPrefix
  rw [if_pos h]
  unfold fn
  simp
theorem in_itoa {k : Int} (h0 : 1 ≤ k) (h1 : k ≤ 999) : inE (Lib.itoa k) 1 999 = 0 ∧ inV (Lib.itoa k) 1 999 = k := by
  have h := sg_itoa k (by omega) (by omega)
  have e1 : sgE (Lib.itoa k) = 0 := by simp [sgE, h]
  have e2 : sgV (Lib.itoa k) = k := by simp [sgV, h]
  unfold inE inV
  rw [e1, e2, if_neg (by simp), if_neg (by omega), if_neg (by simp), if_neg (by omega)]
  exact ⟨rfl, rfl⟩
theorem numOf_fn (nm : Bs) {k : Int} (h0 : 1 ≤ k) (h1 : k ≤ 999) : numOf nm (fn nm k) = some k := by
  obtain ⟨p1, p2⟩ := pre_fn nm k
  obtain ⟨i1, i2⟩ := in_itoa h0 h1
  unfold numOf
  rw [if_pos p1, p2, if_pos i1, i2]
theorem numOf_some {nm f : Bs} {k : Int} (h : numOf nm f = some k) : f = fn nm k ∧ 1 ≤ k ∧ k ≤ 999 := by
  unfold numOf at h
  split at h
  · rename_i hp
    split at h
    · rename_i hi
      have hk := Option.some.inj h
      unfold inE at hi
      unfold inV at hk
      split at hi
      · rename_i h1; exact absurd hi h1
      · rename_i h1
        rw [if_neg h1] at hk
        split at hi
        · omega
        · rename_i h2
          rw [if_neg h2] at hk
          have hs : sgP (Lib.trimPrefix f nm) = some k := by
            unfold sgE at h1
            unfold sgV at hk
            cases e : sgP (Lib.trimPrefix f nm) with
            | none => rw [e] at h1; simp at h1
            | some v => rw [e] at hk; simpa using hk
          have hf := (sg_some hs).1
          refine ⟨?_, by omega, by omega⟩
          unfold fn
          rw [hf]
          unfold Lib.trimPrefix
          rw [if_pos hp]
          unfold Lib.hasPrefix at hp
          rw [List.isPrefixOf_iff_prefix] at hp
          exact (List.prefix_iff_eq_append.1 hp).symm
    · cases h
  · cases h
theorem itoa_len {k : Int} (h0 : 0 ≤ k) (h1 : k ≤ 999) : (Lib.itoa k).length ≤ 3 := by
  obtain ⟨u, rfl⟩ : ∃ u : Nat, k = (u : Int) := ⟨k.toNat, by omega⟩
  rw [Lib.itoa_nonneg, Lib.decDigits_length]
  exact nDigits_le 2 u (by omega)
theorem fn_len {nm : Bs} {k : Int} (h0 : 0 ≤ k) (h1 : k ≤ 1000000) : (fn nm k).length ≤ nm.length + 20 := by
  have := (itoa_shape k (by omega) (by omega)).1
  unfold fn
  rw [List.length_append]
  omega
theorem name_fn {nm : Bs} (h : nameB nm = true) (hl : nm.length ≤ 8) {k : Int} (h0 : 1 ≤ k) (h1 : k ≤ 999) : nameB (fn nm k) = true := by
  have h3 := itoa_len (by omega) h1
  cases nm with
  | nil => simp [nameB] at h
  | cons c r =>
    unfold nameB at h ⊢
    simp only [Bool.and_eq_true, decide_eq_true_eq, List.all_eq_true] at h
    obtain ⟨-, ha, hr⟩ := h
    show (decide ((fn (c :: r) k).length ≤ 12) && (isA c && (r ++ Lib.itoa k).all fun x => isA x || isD x)) = true
    simp only [Bool.and_eq_true, decide_eq_true_eq, List.all_eq_true]
    refine ⟨by unfold fn; rw [List.length_append]; omega, ha, fun x hx => ?_⟩
    rcases List.mem_append.1 hx with hx | hx
    · exact hr x hx
    · obtain ⟨u, rfl⟩ : ∃ u : Nat, k = (u : Int) := ⟨k.toNat, by omega⟩
      rw [Lib.itoa_nonneg] at hx
      have := dig_mem u x hx
      unfold isD
      rw [decide_eq_true this, Bool.or_true]

/-! ### The numbers of the files that are there -/
theorem nums_mem {nm : Bs} {F : List Fl} {k : Int} : k ∈ numsU nm F ↔ 1 ≤ k ∧ k ≤ 999 ∧ lk F (fn nm k) ≠ none := by
  unfold numsU
  rw [List.mem_filterMap]
  constructor
  · rintro ⟨f, hf, hk⟩
    obtain ⟨h1, h2, h3⟩ := numOf_some hk
    refine ⟨h2, h3, fun hn => ?_⟩
    obtain ⟨x, hx, rfl⟩ := List.mem_map.1 hf
    exact lk_none.1 hn x hx h1
  · rintro ⟨h1, h2, h3⟩
    cases e : lk F (fn nm k) with
    | none => exact absurd e h3
    | some f =>
      obtain ⟨e1, e2⟩ := lk_some e
      exact ⟨f.n, List.mem_map.2 ⟨f, e1, rfl⟩, by rw [e2]; exact numOf_fn nm h1 h2⟩
theorem nums_nodup {nm : Bs} {F : List Fl} (h : Srt F) : (numsU nm F).Pairwise (· ≠ ·) := by
  unfold numsU
  have h1 : (F.map Fl.n).Pairwise (· ≠ ·) := List.pairwise_map.2 (srt_ne h)
  refine List.Pairwise.filterMap _ (R := (· ≠ ·)) (S := (· ≠ ·)) (fun a b hab c hc d hd => ?_) h1
  obtain ⟨e1, -⟩ := numOf_some hc
  obtain ⟨e2, -⟩ := numOf_some hd
  intro e
  subst e
  exact hab (e1.trans e2.symm)
/-- Numbers in a row. -/
def rowI (a : Int) (n : Nat) : List Int := (List.range n).map fun i : Nat => a + (i : Int)
theorem rowI_mem {a : Int} {n : Nat} {k : Int} : k ∈ rowI a n ↔ a ≤ k ∧ k < a + n := by
  unfold rowI
  rw [List.mem_map]
  constructor
  · rintro ⟨i, hi, rfl⟩
    have := List.mem_range.1 hi
    omega
  · rintro ⟨h1, h2⟩
    exact ⟨(k - a).toNat, List.mem_range.2 (by omega), by omega⟩
theorem rowI_sorted (a : Int) (n : Nat) : (rowI a n).Pairwise (· < ·) := by
  unfold rowI
  refine List.pairwise_map.2 (List.Pairwise.imp (fun {x y} h => ?_) List.pairwise_lt_range)
  omega
theorem rowI_cons (a : Int) (n : Nat) : rowI a (n + 1) = a :: rowI (a + 1) n := by
  unfold rowI
  rw [List.range_succ_eq_map, List.map_cons, List.map_map]
  congr 1
  · simp
  · refine List.map_congr_left fun i _ => ?_
    simp
    omega
theorem perm_of_mem {l m : List Int} (hl : l.Pairwise (· ≠ ·)) (hm : m.Pairwise (· ≠ ·)) (h : ∀ x, x ∈ l ↔ x ∈ m) : l.Perm m :=
  (List.perm_ext_iff_of_nodup hl hm).2 h
theorem sorted_row {l : List Int} {a : Int} {n : Nat} (hl : l.Pairwise (· ≠ ·)) (h : ∀ x, x ∈ l ↔ a ≤ x ∧ x < a + n) {s : List Int} (hp : s.Perm l) (hs : s.Pairwise (· ≤ ·)) : s = rowI a n := by
  have h1 : l.Perm (rowI a n) := perm_of_mem hl ((rowI_sorted a n).imp fun {x y} hxy => by omega) fun x => by rw [h, rowI_mem]
  exact List.Perm.eq_of_pairwise (le := fun x y : Int => x ≤ y) (fun x y _ _ h1 h2 => Int.le_antisymm h1 h2) hs ((rowI_sorted a n).imp fun {x y} hxy => by omega) (hp.trans h1)
end Go.Proofs.YtfpmcomigolacaaGreatDoor.wal
set_option linter.unusedSimpArgs false
set_option linter.unusedVariables false
namespace Go.Proofs.YtfpmcomigolacaaGreatDoor.tailed
open Go

section
variable {P : Program} {ops : Array Oper} {C : World → Prop}

/-- Whatever order the first n are picked in, L holds behind them. -/
def HeadQ (P : Program) (ops : Array Oper) (C : World → Prop) (n : Nat) (L : Array Bool → Act → Prop) : Nat → Array Bool → Act → Prop
  | 0, s, a => L s a
  | f + 1, s, a => Region.ready .any ops s ≠ [] ∧ ∀ i ∈ Region.ready .any ops s, i < n ∧ qOp P ops C i (HeadQ P ops C n L f (s.setIfInBounds i true)) a

theorem headQ_any {n g : Nat} {L : Array Bool → Act → Prop} {Q : Exit → Act → World → Prop} (hL : ∀ s a w, C w → L s a → wpAny P .any ops Q g s a w) (f : Nat) :
    ∀ (s : Array Bool) (a : Act) (w : World), C w → HeadQ P ops C n L f s a → wpAny P .any ops Q (f + g) s a w := by
  induction f with
  | zero => intro s a w hw h; rw [Nat.zero_add]; exact hL s a w hw h
  | succ f ih =>
    intro s a w hw h
    have e : f + 1 + g = (f + g) + 1 := by omega
    rw [e]
    exact ⟨fun h0 => absurd h0 h.1, fun i hi => wpOp_of_qOp hw (fun a' w' hw' h' => ih _ a' w' hw' h') (h.2 i hi).2⟩

/-- One that may be picked now may be taken first. -/
theorem headQ_first {n i : Nat} {oi : Oper} {v : Value} {L : Array Bool → Act → Prop} (hi : ops[i]? = some oi) (hsel : ∀ (j : Nat) (o : Oper) cs b, ops[j]? = some o → o.op ≠ .select cs b)
    (hs : Region.sinkB .any ops n = true) (hc : Region.chainB .any ops n = true) (hn : n < ops.size) (hin : i < n) (hL : ∀ s a, L s a → ∀ j ∈ Region.ready .any ops s, n ≤ j) (f : Nat) :
    ∀ (s : Array Bool) (a : Act), HeadInv .any ops n s →
      (∀ j oj, ops[j]? = some oj → j ≠ i → s.getD j true = false → (∀ e ∈ oj.after, Region.binds .any e = true → e.on ≠ i) → oi.apart ops oj = true) →
      i ∈ Region.ready .any ops s → YieldsIn P ops C oi v a → HeadQ P ops C n L f (s.setIfInBounds i true) (a.put oi.dst v) → HeadQ P ops C n L (f + 1) s a := by
  induction f with
  | zero =>
    intro s a inv _ hr hy H
    have un := (mem_ready.1 hr).1
    refine ⟨fun h0 => by simp [h0] at hr, fun j hj => ?_⟩
    have lt : j < n := Nat.lt_of_not_le fun hle => tail_waits hs hc hn inv _ i rfl hin un j hle hj
    by_cases e : j = i
    · exact ⟨lt, by subst e; exact hy.qOp hi H⟩
    · have := hL _ _ H j (ready_mono hj e)
      omega
  | succ f ih =>
    intro s a inv free hr hy H
    have un := (mem_ready.1 hr).1
    refine ⟨fun h0 => by simp [h0] at hr, fun j hj => ?_⟩
    have lt : j < n := Nat.lt_of_not_le fun hle => tail_waits hs hc hn inv _ i rfl hin un j hle hj
    refine ⟨lt, ?_⟩
    by_cases e : j = i
    · subst e; exact hy.qOp hi H
    obtain ⟨unj, oj, hoj, allj⟩ := mem_ready.1 hj
    have no : ∀ x ∈ oj.after, Region.binds .any x = true → x.on ≠ i := fun x hx hb hxi => by
      have := allj x hx hb
      rw [hxi, getD_both un] at this
      exact Bool.noConfusion this
    have h1 := (H.2 j (ready_mono hj e)).2
    refine qOp_mono (fun a' h3 => ?_) (qOp_put hoj (free j oj hoj e unj no) (fun cs b => hsel i oi cs b hi) (fun cs b => hsel j oj cs b hoj) hy h1)
    refine ih _ a' (inv.set hj lt) (fun k ok hk hki hun hno => free k ok hk hki ?_ hno) (ready_mono hr (Ne.symm e)) h3.1 ?_
    · by_cases hjk : j = k
      · subst hjk; exact unj
      · rwa [getD_set_ne true hjk] at hun
    · rw [Array.setIfInBounds_comm _ _ e]
      exact h3.2

theorem headQ_lex {n g : Nat} {K : Act → Prop} (hsel : Region.noSelect ops = true) (hs : Region.sinkB .any ops n = true) (hc : Region.chainB .any ops n = true) (hn : n < ops.size) :
    ∀ (l : List Oper) (k : Nat) (s : Array Bool) (a : Act), (∀ j, j < l.length → l[j]? = ops[k + j]?) → k + l.length = n → HeadInv .any ops n s →
      Region.lexHead .any ops g l.length k s = true → wpQuiet P ops C K l a → HeadQ P ops C n (fun s' a' => Region.seqB .any ops g n s' = true ∧ K a') l.length s a := by
  intro l
  induction l with
  | nil =>
    intro k s a _ hk _ hB h
    obtain rfl : k = n := by simpa using hk
    exact ⟨by simpa [Region.lexHead] using hB, h⟩
  | cons o l ih =>
    intro k s a hl hk inv hB h
    have h0 : ops[k]? = some o := by simpa using (hl 0 (by simp)).symm
    simp only [List.length_cons, Region.lexHead, Bool.and_eq_true] at hB
    obtain ⟨⟨hr, hf⟩, hB2⟩ := hB
    have hkn : k < n := by simp only [List.length_cons] at hk; omega
    have hr2 : k ∈ Region.ready .any ops s := by simpa using hr
    have hq : qOp P ops C k (wpQuiet P ops C K l) a := by unfold qOp; simp only [h0]; exact h
    obtain ⟨v, hy, hK⟩ := yieldsIn_of_qOp h0 hq
    refine headQ_first h0 (Region.noSelect_spec hsel) hs hc hn hkn (fun s' a' hL => seqB_ready hL.1) l.length s a inv (Region.free_spec h0 hf) hr2 hy ?_
    refine ih (k + 1) _ _ (fun j hj => ?_) (by simp only [List.length_cons] at hk; omega) (inv.set hr2 hkn) hB2 hK
    have := hl (j + 1) (by simp; omega)
    simpa [Nat.add_assoc, Nat.add_comm 1 j] using this

theorem region_tail {id : Nat} {Q : Exit → Act → World → Prop} {a : Act} {w : World} {l : List Oper} (n : Nat) (hm : P.follows .mixedOrders = true) (hB : Region.lexTailB .any l.toArray n = true) (hw : C w.drew)
    (h : wpQuiet P l.toArray C (fun a' => ∀ w', C w' → wpList P l.toArray Q (l.drop n) a' w') (l.take n) a) : (Code.region id l.toArray true).wp P Q a w := by
  simp only [Region.lexTailB, Bool.and_eq_true, decide_eq_true_eq] at hB
  obtain ⟨⟨⟨⟨hsel, hn⟩, hs⟩, hc⟩, hlex⟩ := hB
  have len : n < l.length := by simpa using hn
  have tl : (l.take n).length = n := by simp; omega
  have dl : (l.drop n).length = l.toArray.size - n := by simp
  have inv : HeadInv .any l.toArray n (Array.replicate l.toArray.size false) :=
    ⟨by simp, fun j oj _ hl => by rw [getD_replicate_false] at hl; exact Bool.noConfusion hl, fun t _ ht => getD_in (by simpa using ht) (getD_replicate_false _ _)⟩
  have H := headQ_lex (P := P) (C := C) (g := l.toArray.size - n) hsel hs hc hn (l.take n) 0 _ a (fun j hj => by
    have hj' : j < n := by rw [tl] at hj; exact hj
    simp [hj']) (by simpa using tl) inv (by rw [tl]; exact hlex) h
  refine wp_region_any hm ?_
  have F := headQ_any (Q := Q) (g := l.toArray.size - n) (fun s a' w' hw' hL => by
    have := wpAny_of_seq (md := .any) (Q' := Q) (l.drop n) n s a' w' (fun j => by simp [List.getElem?_drop]) (by rw [dl]; exact hL.1) (hL.2 w' hw')
    rwa [dl] at this) _ _ _ _ hw H
  rw [tl, show n + (l.toArray.size - n) = l.toArray.size by omega] at F
  exact F
end
end Go.Proofs.YtfpmcomigolacaaGreatDoor.tailed
set_option linter.unusedSimpArgs false
set_option linter.unusedVariables false
namespace Go.Proofs.YtfpmcomigolacaaGreatDoor.wal
open Go.ChangeShapes Go.WideShapes Go.ChangeAt Go.RowKit Go.Maps Go.WideMaps
open Go.Proofs.YtfpmcomigolacaaGreatDoor.opened Go.Proofs.YtfpmcomigolacaaGreatDoor.block Go.Proofs.YtfpmcomigolacaaGreatDoor.words Go.Proofs.YtfpmcomigolacaaGreatDoor.disk Go.Proofs.YtfpmcomigolacaaGreatDoor.tailed Go.Proofs.YtfpmcomigolacaaGreatDoor.enc Go.Proofs.YtfpmcomigolacaaGreatDoor.code

theorem region_since_tail {P : Program} {id : Nat} {Q : Exit → Act → World → Prop} {a : Act} (w0 : World) {w : World} {l : List Oper} (n : Nat) (hm : P.follows .mixedOrders = true) (hB : Region.lexTailB .any l.toArray n = true) (hw : Below w0.heap.size w0 w)
    (h : wpQuiet P l.toArray (fun w' => ∃ x : Since w0, w' = x.1) (fun a' => ∀ w', (∃ x : Since w0, w' = x.1) → wpList P l.toArray Q (l.drop n) a' w') (l.take n) a) : (Code.region id l.toArray true).wp P Q a w :=
  region_tail (C := fun w' => ∃ x : Since w0, w' = x.1) n hm hB ⟨⟨_, hw.drew⟩, rfl⟩ h
theorem since_callW {P : Program} {f : FuncId} {args : Array Value} {v : Value} {w0 : World} (h : ∀ w, Below w0.heap.size w0 w → Calls P f args w fun e w' => e = .returned v ∧ Below w.heap.size w w') (x : Since w0) :
    Calls P f args x.1 fun e w' => e = .returned v ∧ ∃ y : Since w0, w' = y.1 :=
  (h x.1 x.2).mono fun _ w' ⟨he, hb⟩ => ⟨he, ⟨w', then_below x.2 hb⟩, rfl⟩

section
variable {gl gd : Nat} {L : Lg} {A : Option Addr} {c : Nat} {R : Option Addr} {d : Nat} {w : World}
theorem files_any (h : LogE w gl gd L A c R d) :
    Calls Tryz.prog 18 #[.pointer (some ⟨gl, 0, none⟩)] w fun e w' => e = .returned (.int .i64 (L.heads.length : Int)) ∧ Below w.heap.size w w' := by
  have c4 : w.cell? ⟨gl, 4, none⟩ = some (.slice A L.heads.length c) := h.cells.read 4
  have f4 : w.frozen? ⟨gl, 4, none⟩ = false := h.cells.soft 4
  clear h
  generalize L.heads.length = n at c4 ⊢
  go_enter Tryz.func18, Tryz.ntmps18
  go_wp2_with fail
  go_ret
  exact ⟨rfl, Below.refl _ _⟩
theorem synced_any (h : LogE w gl gd L A c R d) :
    Calls Tryz.prog 17 #[.pointer (some ⟨gl, 0, none⟩)] w fun e w' => e = .returned (.int .i64 L.syn) ∧ Below w.heap.size w w' := by
  have c4 : w.cell? ⟨gl, 7, none⟩ = some (.int .i64 L.syn) := h.cells.read 7
  have f4 : w.frozen? ⟨gl, 7, none⟩ = false := h.cells.soft 7
  clear h
  generalize L.syn = n at c4 ⊢
  go_enter Tryz.func17, Tryz.ntmps17
  go_wp2_with fail
  go_ret
  exact ⟨rfl, Below.refl _ _⟩
theorem base_any (h : LogE w gl gd L A c R d) :
    Calls Tryz.prog 19 #[.pointer (some ⟨gl, 0, none⟩)] w fun e w' => e = .returned (.int .i64 (baseN L)) ∧ Below w.heap.size w w' := by
  have HF := Lib.hid (files_any h)
  have c4 : ∀ w1, Below w.heap.size w w1 → w1.cell? ⟨gl, 4, none⟩ = some (.slice A L.heads.length c) ∧ w1.frozen? ⟨gl, 4, none⟩ = false := fun w1 b => ⟨(h.below b).cells.read 4, (h.below b).cells.soft 4⟩
  have hh : ∀ w1, Below w.heap.size w w1 → ∀ k x, L.heads[k]? = some x → ∃ g, A = some ⟨g, 0, none⟩ ∧ g < w1.heap.size ∧ w1.cell? ⟨g, k, none⟩ = some (.int .i64 x) := fun w1 b k x hk => own_at (h.below b).heads (by rw [List.getElem?_map, hk]; rfl)
  clear h
  unfold baseN
  cases e : L.heads with
  | nil =>
    rw [e] at HF c4
    clear hh e c4
    go_enter Tryz.func19, Tryz.ntmps19
    go_wp2_with (go_at_call 18; refine HF.out.mono ?_; rintro e w1 ⟨rfl, b1⟩; have B1 := Lib.hid b1; clear b1)
    go_ret
    exact ⟨rfl, B1.out⟩
  | cons x r =>
    rw [e] at HF c4 hh
    have hh0 := fun w1 b => hh w1 b 0 x rfl
    clear hh e
    have hz : (((x :: r).length : Int) == 0) = false := by simp; omega
    have hz2 : 0 < (x :: r).length := by simp
    have HX : Hid (((x :: r).head?.getD 0 : Int) = x) := Lib.hid rfl
    generalize (x :: r).length = n at HF c4 hz hz2
    generalize ((x :: r).head?.getD 0 : Int) = y at HX ⊢
    obtain rfl : y = x := HX.out
    go_enter Tryz.func19, Tryz.ntmps19
    go_upto_region 3 with (go_at_call 18; refine HF.out.mono ?_; rintro e w1 ⟨rfl, b1⟩; have B1 := Lib.hid b1; clear b1)
    obtain ⟨c5, f5⟩ := c4 w1 B1.out
    obtain ⟨g, rfl, -, c6⟩ := hh0 w1 B1.out
    clear c4 hh0
    go_wp2_with fail
    go_ret
    exact ⟨rfl, B1.out⟩
theorem next_any (G : GoodL L) (hn : nextN L ≤ 1125899906842624) (h : LogE w gl gd L A c R d) :
    Calls Tryz.prog 16 #[.pointer (some ⟨gl, 0, none⟩)] w fun e w' => e = .returned (.int .i64 (nextN L)) ∧ Below w.heap.size w w' := by
  have HB : Hid (∀ w1, Below w.heap.size w w1 → Calls Tryz.prog 19 #[.pointer (some ⟨gl, 0, none⟩)] w1 fun e w' => e = .returned (.int .i64 (baseN L)) ∧ Below w1.heap.size w1 w') := Lib.hid fun w1 b => base_any (h.below b)
  have c5 : ∀ x : Since w, x.1.cell? ⟨gl, 5, none⟩ = some (.slice R L.recs.length d) := fun x => (h.below x.2).cells.read 5
  have f5 : ∀ x : Since w, x.1.frozen? ⟨gl, 5, none⟩ = false := fun x => (h.below x.2).cells.soft 5
  have h0 := G.base
  unfold nextN at hn ⊢
  clear h G
  generalize baseN L = b at HB hn h0 ⊢
  generalize L.recs.length = n at c5 hn ⊢
  have hw : wrap64 (b + (n : Int)) = b + (n : Int) := by unfold wrap64; omega
  clear hn h0
  go_enter Tryz.func16, Tryz.ntmps16
  go_upto_region 1 with fail
  refine region_since w (by kernel_rfl) (by kernel_rfl) (Below.refl _ _) ?_
  repeat (go_big_quiet_step ((go_at_call 19; with_reducible exact since_callW HB.out _)))
  refine wpQuiet_nil ?_
  rintro w4 ⟨z, rfl⟩
  have hz := z.2
  clear c5 f5
  rw [hw]
  go_wp2_with fail
  go_ret
  exact ⟨rfl, hz⟩
theorem nextFile_any (G : GoodL L) (h : LogE w gl gd L A c R d) :
    Calls Tryz.prog 57 #[.pointer (some ⟨gl, 0, none⟩)] w fun e w' => e = .returned (.int .i64 (nextF L)) ∧ Below w.heap.size w w' := by
  have HB : Hid (∀ w1, Below w.heap.size w w1 → Calls Tryz.prog 18 #[.pointer (some ⟨gl, 0, none⟩)] w1 fun e w' => e = .returned (.int .i64 (L.heads.length : Int)) ∧ Below w1.heap.size w1 w') := Lib.hid fun w1 b => files_any (h.below b)
  have c5 : ∀ x : Since w, x.1.cell? ⟨gl, 3, none⟩ = some (.int .i64 L.least) := fun x => (h.below x.2).cells.read 3
  have f5 : ∀ x : Since w, x.1.frozen? ⟨gl, 3, none⟩ = false := fun x => (h.below x.2).cells.soft 3
  have h0 := G.lo
  have h1 := G.hi
  unfold nextF at h1 ⊢
  clear h G
  generalize L.least = b at c5 h0 h1 ⊢
  generalize L.heads.length = n at HB h1 ⊢
  have hw : wrap64 (b + (n : Int)) = b + (n : Int) := by unfold wrap64; omega
  clear h0 h1
  go_enter Tryz.func57, Tryz.ntmps57
  go_upto_region 1 with fail
  refine region_since w (by kernel_rfl) (by kernel_rfl) (Below.refl _ _) ?_
  repeat (go_big_quiet_step ((go_at_call 18; with_reducible exact since_callW HB.out _)))
  refine wpQuiet_nil ?_
  rintro w4 ⟨z, rfl⟩
  have hz := z.2
  clear c5 f5
  rw [hw]
  go_wp2_with fail
  go_ret
  exact ⟨rfl, hz⟩
theorem file_any (hl : L.nm.length ≤ 8) (k : Int) (h0 : 0 ≤ k) (h1 : k ≤ 1000000) (h : LogE w gl gd L A c R d) (hE : Env w) :
    Calls Tryz.prog 36 #[.pointer (some ⟨gl, 0, none⟩), .int .i64 k] w fun e w' => e = .returned (sV (fn L.nm k)) ∧ Below w.heap.size w w' := by
  have HB : Hid (∀ w1, Below w.heap.size w w1 → Calls Tryz.prog 63 #[.int .i64 k] w1 fun e w' => e = .returned (sV (Lib.itoa k)) ∧ Below w1.heap.size w1 w') := Lib.hid fun w1 b => number_any k (by omega) (by omega) w1 (hE.below b)
  have c5 : ∀ x : Since w, x.1.cell? ⟨gl, 1, none⟩ = some (sV L.nm) := fun x => (h.below x.2).cells.read 1
  have f5 : ∀ x : Since w, x.1.frozen? ⟨gl, 1, none⟩ = false := fun x => (h.below x.2).cells.soft 1
  have hi := (itoa_shape k (by omega) (by omega)).1
  unfold fn
  clear h hE
  generalize L.nm = nm at c5 hl ⊢
  generalize Lib.itoa k = t at HB hi ⊢
  have ha : (⟨nm.toArray⟩ : ByteArray) ++ (⟨t.toArray⟩ : ByteArray) = ⟨(nm ++ t).toArray⟩ := ByteArray.ext (by simp)
  have hab : ¬ 9223372036854775807 < nm.length + t.length := by omega
  rw [show sV (nm ++ t) = .string ((⟨nm.toArray⟩ : ByteArray) ++ (⟨t.toArray⟩ : ByteArray)) from by rw [ha]]
  clear ha hl hi
  go_enter Tryz.func36, Tryz.ntmps36
  go_upto_region 1 with fail
  refine region_since w (by kernel_rfl) (by kernel_rfl) (Below.refl _ _) ?_
  repeat (go_big_quiet_step ((go_at_call 63; with_reducible exact since_callW HB.out _)))
  refine wpQuiet_nil ?_
  rintro w4 ⟨z, rfl⟩
  have hz := z.2
  clear c5 f5
  go_wp2_with fail
  go_ret
  exact ⟨rfl, hz⟩
theorem get_any (G : GoodL L) (hn : nextN L ≤ 1125899906842624) (n : Int) (n0 : -9223372036854775808 ≤ n) (n1 : n ≤ 9223372036854775807) (h : LogE w gl gd L A c R d) :
    Calls Tryz.prog 20 #[.pointer (some ⟨gl, 0, none⟩), .int .i64 n] w fun e w' => e = .returned (.tuple #[sV (gtV L n), .int .i64 (gtE L n)]) ∧ Below w.heap.size w w' := by
  have HB : Hid (∀ w1, Below w.heap.size w w1 → Calls Tryz.prog 19 #[.pointer (some ⟨gl, 0, none⟩)] w1 fun e w' => e = .returned (.int .i64 (baseN L)) ∧ Below w1.heap.size w1 w') := Lib.hid fun w1 b => base_any (h.below b)
  have HN : Hid (∀ w1, Below w.heap.size w w1 → Calls Tryz.prog 16 #[.pointer (some ⟨gl, 0, none⟩)] w1 fun e w' => e = .returned (.int .i64 (nextN L)) ∧ Below w1.heap.size w1 w') := Lib.hid fun w1 b => next_any G hn (h.below b)
  have c5 : Hid (∀ x : Since w, x.1.cell? ⟨gl, 5, none⟩ = some (.slice R L.recs.length d)) := Lib.hid fun x => (h.below x.2).cells.read 5
  have f5 : Hid (∀ x : Since w, x.1.frozen? ⟨gl, 5, none⟩ = false) := Lib.hid fun x => (h.below x.2).cells.soft 5
  have hh : Hid (∀ k s, L.recs[k]? = some s → ∃ g, R = some ⟨g, 0, none⟩ ∧ ∀ x : Since w, x.1.cell? ⟨g, k, none⟩ = some (sV s)) := Lib.hid fun k s hk => by
    obtain ⟨g, h1, h2, h3⟩ := own_at h.recs (by rw [List.getElem?_map, hk]; rfl)
    exact ⟨g, h1, fun x => (x.2.cell (p := ⟨g, k, none⟩) h2).trans h3⟩
  have h0 := G.base
  have HX : Hid (nextN L = baseN L + L.recs.length) := Lib.hid rfl
  have HE : Hid (gtE L n = if n < baseN L ∨ nextN L ≤ n then 1 else 0) := Lib.hid rfl
  have HV : Hid (gtV L n = if n < baseN L ∨ nextN L ≤ n then [] else (L.recs[(n - baseN L).toNat]?).getD []) := Lib.hid rfl
  clear h G
  generalize gtE L n = ge at HE ⊢
  generalize gtV L n = gv at HV ⊢
  generalize baseN L = b at HB HX HE HV h0
  generalize nextN L = m at HN HX HE HV hn
  by_cases q1 : n < b
  · have e1 := HE.out
    have e2 := HV.out
    rw [if_pos (.inl q1)] at e1 e2
    subst e1 e2
    clear HE HV HX hh c5 f5 HN
    go_enter Tryz.func20, Tryz.ntmps20
    go_wp2_with (go_at_call 19; refine (HB.out _ (Below.refl _ _)).mono ?_; rintro e w1 ⟨rfl, b1⟩; have B1 := Lib.hid b1; clear b1)
    go_ret2
    exact ⟨rfl, B1.out⟩
  by_cases q2 : m ≤ n
  · have e1 := HE.out
    have e2 := HV.out
    rw [if_pos (.inr q2)] at e1 e2
    subst e1 e2
    clear HE HV HX hh c5 f5
    go_enter Tryz.func20, Tryz.ntmps20
    go_wp2_with (first
      | (go_at_call 19; refine (HB.out _ (Below.refl _ _)).mono ?_; rintro e w1 ⟨rfl, b1⟩; have B1 := Lib.hid b1; clear b1)
      | (go_at_call 16; refine (HN.out _ B1.out).mono ?_; rintro e w2 ⟨rfl, b2⟩; have B2 := Lib.hid (then_below B1.out b2); clear b2))
    go_ret2
    exact ⟨rfl, B2.out⟩
  have e1 := HE.out
  have e2 := HV.out
  rw [if_neg (by omega)] at e1 e2
  subst e1
  clear HE HV
  have hx := HX.out
  obtain ⟨k, hk⟩ : ∃ k : Nat, n - b = k := ⟨(n - b).toNat, by omega⟩
  have hkl : k < L.recs.length := by omega
  rw [hk, Int.toNat_natCast, List.getElem?_eq_getElem hkl] at e2
  have hw : wrap64 (n - b) = (k : Int) := by unfold wrap64; omega
  obtain ⟨g, rfl, hc⟩ := hh.out k _ (List.getElem?_eq_getElem hkl)
  have e3 : L.recs[k] = gv := e2.symm
  rw [e3] at hc
  clear hh e2 e3 hx HX h0
  have HC := Lib.hid hc
  clear hc
  generalize L.recs.length = len at c5 hkl
  clear hk
  go_enter Tryz.func20, Tryz.ntmps20
  go_upto_region 3 with (first
      | (go_at_call 19; refine (HB.out _ (Below.refl _ _)).mono ?_; rintro e w1 ⟨rfl, b1⟩; have B1 := Lib.hid b1; clear b1)
      | (go_at_call 16; refine (HN.out _ B1.out).mono ?_; rintro e w2 ⟨rfl, b2⟩; have B2 := Lib.hid (then_below B1.out b2); clear b2))
  clear q1 q2
  have c5' := c5.out
  have f5' := f5.out
  have hc := HC.out
  refine region_since w (by kernel_rfl) (by kernel_rfl) B2.out ?_
  repeat (go_big_quiet_step ((go_at_call 19; with_reducible exact since_callW HB.out _)))
  refine wpQuiet_nil ?_
  rintro w4 ⟨z, rfl⟩
  have hz := z.2
  clear c5 f5 c5' f5' hc HC
  go_wp2_with fail
  go_ret2
  exact ⟨rfl, hz⟩
end
end Go.Proofs.YtfpmcomigolacaaGreatDoor.wal
