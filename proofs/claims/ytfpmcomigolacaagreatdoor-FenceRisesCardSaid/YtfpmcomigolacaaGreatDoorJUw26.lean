/-
  A disk whose power does not fail: appends, syncs and drops of a log go through.
  A log that nothing fails: the numbers of its records and of its files.
-/
import Derived.Test.YtfpmcomigolacaaGreatDoorJUw25
set_option linter.unusedSimpArgs false
set_option linter.unusedVariables false
namespace Go.Proofs.YtfpmcomigolacaaGreatDoor.wal
open Go.ChangeShapes Go.WideShapes Go.ChangeAt Go.RowKit Go.Maps Go.WideMaps
open Go.Proofs.YtfpmcomigolacaaGreatDoor.opened Go.Proofs.YtfpmcomigolacaaGreatDoor.block Go.Proofs.YtfpmcomigolacaaGreatDoor.words Go.Proofs.YtfpmcomigolacaaGreatDoor.disk Go.Proofs.YtfpmcomigolacaaGreatDoor.tailed Go.Proofs.YtfpmcomigolacaaGreatDoor.enc Go.Proofs.YtfpmcomigolacaaGreatDoor.code
def Quiet (D : Dk) : Prop := D.off = false ∧ D.left = -1
theorem quiet_chk {D : Dk} (Q : Quiet D) {n : Bs} (hn : nameB n = true) : chk D n = 0 ∧ stpE D = 0 ∧ stpV D = D := by
  unfold chk stpE stpV
  rw [if_neg (by rw [Q.1]; simp), if_pos hn, Q.2]
  exact ⟨rfl, by simp, by simp⟩
theorem appQ {D : Dk} (Q : Quiet D) (G : GoodD D) {n s : Bs} (hn : nameB n = true) (hu : used D.F + s.length ≤ 262144) : appE D n s = 0 ∧ Quiet (appV D n s) ∧ used (appV D n s).F = used D.F + s.length ∧ (appV D n s).F.length ≤ D.F.length + 1 ∧ ∀ m, lk (appV D n s).F m = if m = n then some ⟨n, oldB D.F n ++ s, oldL D.F n⟩ else lk D.F m := by
  obtain ⟨h1, h2, h3⟩ := quiet_chk Q hn
  have he : appE D n s = 0 := by
    unfold appE
    rw [if_neg (by rw [h1]; simp), if_neg (by omega), h2]
  have hv : appV D n s = { D with F := put ⟨n, oldB D.F n ++ s, oldL D.F n⟩ D.F } := by
    unfold appV
    rw [if_pos he, h3]
  rw [hv]
  refine ⟨he, Q, old_len G.srt n s _, ?_, fun m => lk_put G.srt _ m⟩
  have := (put_perm ⟨n, oldB D.F n ++ s, oldL D.F n⟩ D.F).length_eq
  show (put _ D.F).length ≤ _
  rw [this, List.length_cons]
  have h4 : (del n D.F).length ≤ D.F.length := List.length_filter_le _ _
  exact Nat.succ_le_succ h4
theorem onQ {D : Dk} (Q : Quiet D) {n : Bs} (hn : nameB n = true) (hl : lk D.F n ≠ none) : onE D n = 0 := by
  obtain ⟨h1, h2, h3⟩ := quiet_chk Q hn
  unfold onE
  rw [if_neg (by rw [h1]; simp), if_neg hl, h2]
theorem synQ {D : Dk} (Q : Quiet D) (G : GoodD D) {n : Bs} (hn : nameB n = true) (hl : lk D.F n ≠ none) : onE D n = 0 ∧ Quiet (synV D n) ∧ used (synV D n).F = used D.F ∧ ∀ m, lk (synV D n).F m = if m = n then some ⟨n, oldB D.F n, (oldB D.F n).length⟩ else lk D.F m := by
  obtain ⟨h1, h2, h3⟩ := quiet_chk Q hn
  have he := onQ Q hn hl
  have hv : synV D n = { D with F := put ⟨n, oldB D.F n, (oldB D.F n).length⟩ D.F } := by
    unfold synV
    rw [if_pos he, h3]
  rw [hv]
  refine ⟨he, Q, ?_, fun m => lk_put G.srt _ m⟩
  have := old_len G.srt n [] (oldB D.F n).length
  rw [List.append_nil] at this
  simpa using this
theorem remQ {D : Dk} (Q : Quiet D) (G : GoodD D) {n : Bs} (hn : nameB n = true) (hl : lk D.F n ≠ none) : onE D n = 0 ∧ Quiet (remV D n) ∧ used (remV D n).F ≤ used D.F ∧ ∀ m, lk (remV D n).F m = if m = n then none else lk D.F m := by
  obtain ⟨h1, h2, h3⟩ := quiet_chk Q hn
  have he := onQ Q hn hl
  have hv : remV D n = { D with F := del n D.F } := by
    unfold remV
    rw [if_pos he, h3]
  rw [hv]
  exact ⟨he, Q, used_filter _ _, fun m => lk_del G.srt n m⟩
/-- A log whose calls go through. -/
structure Run (L : Lg) (D : Dk) : Prop where
  good : GoodL L
  gd : GoodD D
  bare : Bare L
  q : Quiet D
  fail : L.fail = false
  names : ∀ k, 1 ≤ k → k ≤ 999 → nameB (fn L.nm k) = true
  there : ∀ k, L.least ≤ k → k < nextF L → lk D.F (fn L.nm k) ≠ none
theorem Run.last {L : Lg} {D : Dk} (R : Run L D) (hz : L.heads ≠ []) : 1 ≤ nextF L - 1 ∧ nextF L - 1 ≤ 999 ∧ lk D.F (lastF L) ≠ none := by
  have h1 : 0 < L.heads.length := List.length_pos_iff.2 hz
  have h2 := R.good.lo
  have h3 := R.good.hi
  have h4 : nextF L = L.least + L.heads.length := rfl
  exact ⟨by omega, by omega, R.there _ (by omega) (by omega)⟩
theorem Run.sl {L : Lg} {D : Dk} (R : Run L D) : slE L D = 0 ∧ Quiet (slD L D) ∧ used (slD L D).F = used D.F ∧ ∀ m, lk D.F m ≠ none → lk (slD L D).F m ≠ none := by
  unfold slE slD
  have hoff : ¬ D.off = true := by rw [R.q.1]; simp
  simp only [if_neg hoff]
  by_cases hz : L.heads = []
  · simp only [if_pos hz]
    exact ⟨trivial, R.q, trivial, fun _ h => h⟩
  · simp only [if_neg hz]
    obtain ⟨l1, l2, l3⟩ := R.last hz
    have hr : readE D (lastF L) = 0 := by
      unfold readE
      rw [if_neg (by rw [R.q.1]; simp), if_neg l3]
    have hr2 : ¬ readE D (lastF L) ≠ 0 := by rw [hr]; simp
    simp only [if_neg hr2]
    have hn : nameB (lastF L) = true := R.names _ l1 l2
    split
    · exact ⟨rfl, R.q, rfl, fun _ h => h⟩
    · obtain ⟨e1, e2, e3, e4⟩ := synQ R.q R.gd hn l3
      refine ⟨e1, e2, e3, fun m hm => ?_⟩
      rw [e4]
      split
      · simp
      · exact hm
theorem Run.sy {L : Lg} {D : Dk} (R : Run L D) : syE L D = 0 ∧ Run (syL L D) (syD L D) ∧ used (syD L D).F = used D.F ∧ syL L D = { L with syn := nextN L } := by
  obtain ⟨h1, h2, h3, h4⟩ := R.sl
  have e1 : syE L D = 0 := by unfold syE; rw [if_neg (by rw [R.fail]; simp), h1]
  have e2 : syD L D = slD L D := by unfold syD; rw [if_neg (by rw [R.fail]; simp)]
  have e3 : syL L D = { L with syn := nextN L } := by unfold syL; rw [if_neg (by rw [R.fail]; simp), if_neg (by rw [h1]; simp)]
  refine ⟨e1, ⟨good_sy R.good D, (good_syD R.gd L).1, bare_sy R.bare D, by rw [e2]; exact h2, by rw [e3]; exact R.fail, by rw [e3]; exact R.names, ?_⟩, by rw [e2]; exact h3, e3⟩
  rw [e3, e2]
  exact fun k k0 k1 => h4 _ (R.there k k0 k1)
theorem newB_len (L : Lg) (s : Bs) (hs : s.length ≤ 4096) : (newB L s).length ≤ s.length + 38 ∧ (frameL s).length ≤ s.length + 14 := by
  have h1 := len_enc (nextN L).toNat
  have h2 := len_enc (enc (nextN L).toNat).length
  have h3 := len_enc s.length
  unfold newB
  rw [List.length_append, frame_len, frame_len]
  omega
/-- An append. -/
theorem Run.app {L : Lg} {D : Dk} (R : Run L D) {s : Bs} (hs : s.length ≤ 4096) (hf : nextF L ≤ 999) (hu : used D.F + (s.length + 38) ≤ 262144) :
    apE L D s = 0 ∧ Run (apL L D s) (apD L D s) ∧ used (apD L D s).F ≤ used D.F + (s.length + 38) ∧ (apD L D s).F.length ≤ D.F.length + 2 ∧ (apL L D s).recs = L.recs ++ [s] ∧ (apL L D s).heads = (if closedB L = true then L.heads ++ [nextN L] else L.heads) ∧ (apL L D s).nm = L.nm ∧ (apL L D s).per = L.per ∧ (apL L D s).least = L.least ∧ (L.torn = false → (apL L D s).torn = false) := by
  obtain ⟨n1, n2⟩ := newB_len L s hs
  obtain ⟨s1, s2, s3, s4⟩ := R.sy
  have hlo := R.good.lo
  have hnf : nextF L = L.least + L.heads.length := rfl
  have hnn : nameB (fn L.nm (nextF L)) = true := R.names _ (by omega) (by omega)
  have hw : wrE L D s = 0 := by
    unfold wrE
    split
    · unfold bgE
      rw [if_neg (by omega), if_neg (by rw [s1]; simp)]
      exact (appQ s2.q s2.gd hnn (by omega)).1
    · rename_i hc
      have hz : L.heads ≠ [] := fun e => hc (by unfold closedB; simp [e])
      obtain ⟨l1, l2, l3⟩ := R.last hz
      exact (appQ R.q R.gd (R.names _ l1 l2) (by omega)).1
  have he : apE L D s = 0 := by
    unfold apE
    rw [if_neg (by rw [R.fail]; simp), if_neg (by omega), hw]
  obtain ⟨o1, o2, o3, o4, o5⟩ := ap_ok he
  have hgL := good_apL (D := D) (s := s) R.good R.bare
  have hgD := good_apD R.gd L s
  have hbr := bare_apL (D := D) (s := s) R.bare
  refine ⟨he, ?_⟩
  unfold wrL at o4
  unfold wrD at o5
  by_cases hc : closedB L = true
  · rw [if_pos hc] at o4 o5
    have hb : bgE L D s = 0 := by have := hw; unfold wrE at this; rwa [if_pos hc] at this
    obtain ⟨-, -, -, b4, b5⟩ := bg_ok hb
    have hL : apL L D s = { L with syn := nextN L, heads := L.heads ++ [nextN L], torn := false, recs := L.recs ++ [s] } := by rw [o4, b4, s4]
    have hD : apD L D s = appV (syD L D) (fn L.nm (nextF L)) (newB L s) := by rw [o5, b5]
    obtain ⟨a1, a2, a3, a4, a5⟩ := appQ s2.q s2.gd hnn (s := newB L s) (by omega)
    rw [← hD] at a2 a3 a4 a5
    have hF := (good_syD R.gd L).2
    rw [if_pos hc]
    refine ⟨⟨hgL, hgD, hbr, a2, by rw [hL]; exact R.fail, by rw [hL]; exact R.names, fun k k0 k1 => ?_⟩, by omega, by omega, by rw [hL], by rw [hL], by rw [hL], by rw [hL], by rw [hL], fun _ => by rw [hL]⟩
    have hnm : (apL L D s).nm = L.nm := by rw [hL]
    have hnF : nextF (apL L D s) = nextF L + 1 := by
      rw [hL]
      show L.least + ((L.heads ++ [nextN L]).length : Int) = _
      rw [List.length_append, hnf]
      simp
      omega
    have hle : (apL L D s).least = L.least := by rw [hL]
    rw [hnm, a5]
    split
    · simp
    · rename_i hne
      rw [hle] at k0
      rw [hnF] at k1
      have hk : k ≠ nextF L := fun e => hne (by rw [e])
      have := s2.there k (by rw [s4]; exact k0) (by rw [s4]; show k < nextF L; omega)
      rw [s4] at this
      exact this
  · rw [if_neg hc] at o4 o5
    have hz : L.heads ≠ [] := fun e => hc (by unfold closedB; simp [e])
    obtain ⟨l1, l2, l3⟩ := R.last hz
    obtain ⟨a1, a2, a3, a4, a5⟩ := appQ R.q R.gd (R.names _ l1 l2) (s := frameL s) (by omega)
    have hD : apD L D s = appV D (lastF L) (frameL s) := o5
    have hL : apL L D s = { L with recs := L.recs ++ [s] } := o4
    have hD2 : appV D (fn L.nm (nextF L - 1)) (frameL s) = apD L D s := hD.symm
    rw [hD2] at a2 a3 a4 a5
    rw [if_neg hc]
    refine ⟨⟨hgL, hgD, hbr, a2, by rw [hL]; exact R.fail, by rw [hL]; exact R.names, fun k k0 k1 => ?_⟩, by omega, by omega, by rw [hL], by rw [hL], by rw [hL], by rw [hL], by rw [hL], fun h => by rw [hL]; exact h⟩
    rw [hL] at k0 k1 ⊢
    rw [a5]
    split
    · simp
    · exact R.there k k0 k1
/-- A file is dropped. -/
theorem Run.df {L : Lg} {D : Dk} (R : Run L D) {n : Int} (hp : pastB L n = true) : dfE L D = 0 ∧ Run (dfV L) (dfD L D) := by
  obtain ⟨g1, -, -, gn, -, -⟩ := good_df R.good hp
  have h2 : 2 ≤ L.heads.length := by
    unfold pastB at hp
    cases e : L.heads with
    | nil => rw [e] at hp; cases hp
    | cons a t =>
      cases e2 : t with
      | nil => rw [e, e2] at hp; cases hp
      | cons b r => simp
  have hlo := R.good.lo
  have hhi := R.good.hi
  have hnf : nextF L = L.least + L.heads.length := rfl
  have hnf2 : nextF (dfV L) = nextF L := by
    show L.least + 1 + (L.heads.tail.length : Int) = _
    rw [List.length_tail, hnf]
    omega
  obtain ⟨e1, e2, e3, e4⟩ := remQ R.q R.gd (R.names L.least hlo (by omega)) (R.there L.least (Int.le_refl _) (by omega))
  refine ⟨e1, g1, good_rem R.gd _, bare_df hp, e2, R.fail, R.names, fun k k0 k1 => ?_⟩
  have k0' : L.least + 1 ≤ k := k0
  rw [hnf2] at k1
  show lk (remV D (fn L.nm L.least)).F (fn L.nm k) ≠ none
  rw [e4, if_neg (fun e => by have := fn_inj (by omega) (by omega) (by omega) (by omega) e; omega)]
  exact R.there k (by omega) k1
end Go.Proofs.YtfpmcomigolacaaGreatDoor.wal
set_option linter.unusedSimpArgs false
set_option linter.unusedVariables false
namespace Go.Proofs.YtfpmcomigolacaaGreatDoor.wal
open Go.ChangeShapes Go.WideShapes Go.ChangeAt Go.RowKit Go.Maps Go.WideMaps
open Go.Proofs.YtfpmcomigolacaaGreatDoor.opened Go.Proofs.YtfpmcomigolacaaGreatDoor.block Go.Proofs.YtfpmcomigolacaaGreatDoor.words Go.Proofs.YtfpmcomigolacaaGreatDoor.disk Go.Proofs.YtfpmcomigolacaaGreatDoor.tailed Go.Proofs.YtfpmcomigolacaaGreatDoor.enc Go.Proofs.YtfpmcomigolacaaGreatDoor.code
/-- The first records of files f0, f0 + 1, .. up to f. -/
def mult (P f0 : Nat) : Nat → List Int
  | 0 => []
  | k + 1 => (f0 * P : Nat) :: mult P (f0 + 1) k
theorem mult_len (P : Nat) : ∀ (k f0 : Nat), (mult P f0 k).length = k
  | 0, _ => rfl
  | k + 1, f0 => by rw [mult, List.length_cons, mult_len P k]
theorem mult_snoc (P : Nat) : ∀ (k f0 : Nat), mult P f0 (k + 1) = mult P f0 k ++ [(((f0 + k) * P : Nat) : Int)]
  | 0, f0 => rfl
  | k + 1, f0 => by
    rw [mult, mult_snoc P k (f0 + 1), mult, show f0 + 1 + k = f0 + (k + 1) by omega]
    rfl
theorem mult_last (P k f0 : Nat) : (mult P f0 (k + 1)).getLast? = some (((f0 + k) * P : Nat) : Int) := by rw [mult_snoc]; simp
/-- How many files so many records need. -/
def filesN (P i : Nat) : Nat := if i = 0 then 0 else (i - 1) / P + 1
theorem files_next (P i : Nat) (hP : 1 ≤ P) : filesN P (i + 1) = i / P + 1 ∧ filesN P (i + 1) = if i % P = 0 then filesN P i + 1 else filesN P i := by
  have h1 : filesN P (i + 1) = i / P + 1 := by unfold filesN; rw [if_neg (by omega)]; simp
  refine ⟨h1, ?_⟩
  rw [h1]
  unfold filesN
  by_cases hi : i = 0
  · subst hi
    simp
  · rw [if_neg hi]
    have hd := Nat.div_add_mod i P
    have hm := Nat.mod_lt i hP
    by_cases h0 : i % P = 0
    · rw [if_pos h0]
      have : (i - 1) / P = i / P - 1 := by
        have hq : 1 ≤ i / P := by
          rcases Nat.eq_zero_or_pos (i / P) with q | q
          · rw [q, h0] at hd; omega
          · exact q
        refine Nat.div_eq_of_lt_le ?_ ?_
        · have : (i / P - 1) * P + P = P * (i / P) := by
            rw [Nat.mul_comm P]
            obtain ⟨q, hq2⟩ : ∃ q, i / P = q + 1 := ⟨i / P - 1, by omega⟩
            rw [hq2, Nat.add_sub_cancel, Nat.add_mul]
            omega
          omega
        · have : (i / P - 1 + 1) * P = P * (i / P) := by rw [Nat.sub_add_cancel hq, Nat.mul_comm]
          rw [this]
          omega
      have hq : 1 ≤ i / P := by
        rcases Nat.eq_zero_or_pos (i / P) with q | q
        · rw [q, h0] at hd; omega
        · exact q
      omega
    · rw [if_neg h0]
      have : (i - 1) / P = i / P := by
        refine Nat.div_eq_of_lt_le ?_ ?_
        · rw [Nat.mul_comm]; omega
        · rw [Nat.add_mul, Nat.mul_comm]; omega
      omega
/-- i records are appended, none dropped. -/
structure Num (P : Nat) (N : List Bs) (L : Lg) : Prop where
  per : L.per = (P : Int)
  least : L.least = 1
  torn : L.torn = false
  recs : L.recs = N
  heads : L.heads = mult P 0 (filesN P N.length)
theorem Num.next {P : Nat} {N : List Bs} {L : Lg} (h : Num P N L) : baseN L = 0 ∧ nextN L = (N.length : Int) ∧ nextF L = 1 + (filesN P N.length : Int) := by
  have hb : baseN L = 0 := by
    unfold baseN
    rw [h.heads]
    cases filesN P N.length with
    | zero => rfl
    | succ k => simp [mult]
  refine ⟨hb, ?_, ?_⟩
  · unfold nextN
    rw [hb, h.recs]
    omega
  · unfold nextF
    rw [h.least, h.heads, mult_len]
theorem Num.closed {P : Nat} (hP : 1 ≤ P) {N : List Bs} {L : Lg} (h : Num P N L) : closedB L = decide (N.length % P = 0) := by
  obtain ⟨h1, h2, h3⟩ := h.next
  unfold closedB lastH
  rw [h2, h.heads, h.torn, h.per]
  generalize N.length = i
  unfold filesN
  by_cases hi : i = 0
  · subst hi
    simp [mult]
  · rw [if_neg hi, mult_last]
    have hne : ¬ mult P 0 ((i - 1) / P + 1) = [] := fun e => by have := mult_len P ((i - 1) / P + 1) 0; rw [e] at this; cases this
    rw [decide_eq_false hne, Bool.false_or, Bool.false_or, decide_eq_decide, Option.getD_some, Nat.zero_add]
    have hd := Nat.div_add_mod (i - 1) P
    have hm := Nat.mod_lt (i - 1) hP
    rw [Nat.mul_comm] at hd
    generalize (i - 1) / P * P = q at hd ⊢
    have hq : ∃ j, q = j * P := ⟨(i - 1) / P, by
      have := Nat.div_add_mod (i - 1) P
      rw [Nat.mul_comm] at this
      omega⟩
    obtain ⟨j, rfl⟩ := hq
    constructor
    · intro hle
      have : i = (j + 1) * P := by rw [Nat.add_mul]; omega
      rw [this]
      exact Nat.mul_mod_left _ _
    · intro h0
      have h5 := Nat.div_add_mod i P
      rw [h0, Nat.mul_comm] at h5
      have h6 : j < i / P := by
        rcases Nat.lt_or_ge j (i / P) with q | q
        · exact q
        · have := Nat.mul_le_mul_right P q
          omega
      have := Nat.mul_le_mul_right P (show j + 1 ≤ i / P from h6)
      rw [Nat.add_mul] at this
      omega
theorem filesN_le (P i : Nat) : filesN P i ≤ i := by
  unfold filesN
  split
  · omega
  · have := Nat.div_le_self (i - 1) P
    omega
/-- One more. -/
theorem Num.app {P : Nat} (hP : 1 ≤ P) {N : List Bs} {L : Lg} {D : Dk} (h : Num P N L) (R : Run L D) {s : Bs} (hs : s.length ≤ 4096) (hN : N.length ≤ 900) (hu : used D.F + (s.length + 38) ≤ 262144) :
    apE L D s = 0 ∧ apN L D s = (N.length : Int) ∧ Run (apL L D s) (apD L D s) ∧ Num P (N ++ [s]) (apL L D s) ∧ used (apD L D s).F ≤ used D.F + (s.length + 38) ∧ (apD L D s).F.length ≤ D.F.length + 2 ∧ (apL L D s).nm = L.nm ∧ ((apL L D s).heads.length : Int) = ((N.length / P + 1 : Nat) : Int) := by
  obtain ⟨h1, h2, h3⟩ := h.next
  have hf := filesN_le P N.length
  obtain ⟨e1, e2, e3, e4, e5, e6, e7, e8, e9, e10⟩ := R.app hs (by omega) hu
  obtain ⟨f1, f2⟩ := files_next P N.length hP
  have hl : (N ++ [s]).length = N.length + 1 := by simp
  have hh : (apL L D s).heads = mult P 0 (filesN P (N.length + 1)) := by
    rw [e6, h.closed hP, f2, h.heads, h2]
    by_cases h0 : N.length % P = 0
    · rw [if_pos h0, if_pos (by simpa using h0), mult_snoc]
      congr 2
      have h6 : filesN P N.length * P = N.length := by
        have h7 := Nat.div_add_mod N.length P
        have h8 : filesN P N.length = N.length / P := by
          have := f1
          rw [f2, if_pos h0] at this
          omega
        rw [h8, Nat.mul_comm]
        omega
      rw [Nat.zero_add, h6]
    · rw [if_neg h0, if_neg (by simpa using h0)]
  refine ⟨e1, ?_, e2, ⟨e8.trans h.per, e9.trans h.least, e10 h.torn, by rw [e5, h.recs], by rw [hl]; exact hh⟩, e3, e4, e7, ?_⟩
  · unfold apN
    rw [if_pos e1, h2]
  · rw [hh, mult_len, f1]
/-- Files are dropped: the first one is f0. -/
structure Drp (P : Nat) (N : List Bs) (n : Int) (f0 : Nat) (L : Lg) : Prop where
  recs : L.recs = N.drop (f0 * P)
  heads : ∃ k, L.heads = mult P f0 k ∧ (k = 0 → f0 = 0 ∧ N = [])
  le : ((f0 * P : Nat) : Int) ≤ max n 0
  room : f0 * P ≤ N.length
theorem Drp.base {P : Nat} {N : List Bs} {n : Int} {f0 : Nat} {L : Lg} (h : Drp P N n f0 L) : baseN L = ((f0 * P : Nat) : Int) ∧ nextN L = (N.length : Int) := by
  obtain ⟨k, hk, hz⟩ := h.heads
  have hb : baseN L = ((f0 * P : Nat) : Int) := by
    unfold baseN
    rw [hk]
    cases k with
    | zero => obtain ⟨rfl, -⟩ := hz rfl; simp [mult]
    | succ k => rfl
  refine ⟨hb, ?_⟩
  unfold nextN
  rw [hb, h.recs, List.length_drop]
  have := h.room
  omega
theorem Drp.step {P : Nat} {N : List Bs} {n : Int} {f0 : Nat} {L : Lg} (G : GoodL L) (h : Drp P N n f0 L) (hp : pastB L n = true) : Drp P N n (f0 + 1) (dfV L) := by
  obtain ⟨k, hk, hz⟩ := h.heads
  obtain ⟨b1, b2⟩ := h.base
  cases k with
  | zero => unfold pastB at hp; rw [hk] at hp; cases hp
  | succ k =>
    cases k with
    | zero => unfold pastB at hp; rw [hk] at hp; cases hp
    | succ k =>
      have e0 : h0 L = ((f0 * P : Nat) : Int) := by unfold h0; rw [hk]; rfl
      have e1 : h1 L = (((f0 + 1) * P : Nat) : Int) := by unfold h1; rw [hk]; rfl
      have hle : (((f0 + 1) * P : Nat) : Int) ≤ n := by unfold pastB at hp; rw [hk] at hp; simpa [mult] using hp
      have hd : (h1 L - h0 L).toNat = P := by
        rw [e0, e1, Nat.add_mul]
        omega
      have hlast := G.last (((f0 + 1) * P : Nat) : Int) (by rw [hk]; simp [mult])
      rw [b2] at hlast
      refine ⟨?_, ⟨k + 1, ?_, fun e => by cases e⟩, by omega, by omega⟩
      · show L.recs.drop (h1 L - h0 L).toNat = _
        rw [hd, h.recs, List.drop_drop, Nat.add_mul, Nat.one_mul]
      · show L.heads.tail = _
        rw [hk]
        rfl
theorem run_drF {P : Nat} {N : List Bs} {n : Int} : ∀ (k : Nat) {f0 : Nat} {L : Lg} {D : Dk}, Run L D → Drp P N n f0 L → (drF k L D n).1 = 0 ∧ ∃ f1, Run (drF k L D n).2.1 (drF k L D n).2.2 ∧ Drp P N n f1 (drF k L D n).2.1
  | 0, f0, L, D, R, h => ⟨rfl, f0, R, h⟩
  | k + 1, f0, L, D, R, h => by
    unfold drF
    by_cases hp : pastB L n = true
    · obtain ⟨e1, e2⟩ := R.df hp
      simp only [if_pos hp, if_neg (show ¬ dfE L D ≠ 0 by rw [e1]; simp)]
      exact run_drF k e2 (h.step R.good hp)
    · simp only [if_neg hp]
      exact ⟨trivial, f0, R, h⟩
theorem run_drV {P : Nat} {N : List Bs} {n : Int} {L : Lg} {D : Dk} (R : Run L D) (h : Num P N L) : (drV L D n).1 = 0 ∧ ∃ f1, Run (drV L D n).2.1 (drV L D n).2.2 ∧ Drp P N n f1 (drV L D n).2.1 := by
  have hD : ∀ M : Lg, M.recs = L.recs → M.heads = L.heads → Drp P N n 0 M := fun M h1 h2 => ⟨by rw [h1, h.recs]; simp, ⟨filesN P N.length, by rw [h2, h.heads], fun e => ⟨rfl, by
    unfold filesN at e
    split at e
    · exact List.eq_nil_of_length_eq_zero (by assumption)
    · exact absurd e (Nat.succ_ne_zero _)⟩⟩, by simp; omega, by simp⟩
  obtain ⟨s1, s2, -, s4⟩ := R.sy
  unfold drV
  simp only [if_neg (show ¬ L.fail = true by rw [R.fail]; simp)]
  by_cases hp : pastB L n = false
  · simp only [if_pos hp]
    exact ⟨trivial, 0, R, hD L rfl rfl⟩
  · simp only [if_neg hp, if_neg (show ¬ syE L D ≠ 0 by rw [s1]; simp)]
    exact run_drF L.heads.length s2 (hD _ (by rw [s4]) (by rw [s4]))
/-- What is read. -/
theorem Drp.get {P : Nat} {N : List Bs} {n : Int} {f0 : Nat} {L : Lg} (h : Drp P N n f0 L) {i : Nat} (hi : f0 * P ≤ i) {s : Bs} (hs : N[i]? = some s) : gtE L (i : Int) = 0 ∧ gtV L (i : Int) = s := by
  obtain ⟨b1, b2⟩ := h.base
  have hlt := (List.getElem?_eq_some_iff.1 hs).1
  have hn : ¬ ((i : Int) < baseN L ∨ nextN L ≤ (i : Int)) := by rw [b1, b2]; omega
  unfold gtE gtV
  rw [if_neg hn, if_neg hn, b1, h.recs, List.getElem?_drop, show f0 * P + ((i : Int) - ((f0 * P : Nat) : Int)).toNat = i by omega, hs]
  exact ⟨rfl, rfl⟩
/-- A log that is new. -/
theorem names_q : (List.range 1000).all (fun k => nameB (fn [113] (k : Int))) = true := by kernel_rfl
theorem run_new (per : Int) (hp : 1 ≤ per ∧ per ≤ 64) : Run (lg0 [113] per) K0 ∧ Num per.toNat [] (lg0 [113] per) ∧ opnV K0 [113] per (srtI (numsU [113] K0.F)) = (0, lg0 [113] per, K0) := by
  have hR : Run (lg0 [113] per) K0 := ⟨(tk_zero per (by decide)).good, good_new, fun _ => rfl, ⟨rfl, rfl⟩, rfl, fun k k0 k1 => by
    have := List.all_eq_true.1 names_q k.toNat (by rw [List.mem_range]; omega)
    have e : ((k.toNat : Nat) : Int) = k := by omega
    rw [e] at this
    exact this, fun k k0 k1 => by
    exfalso
    have h1 : (1 : Int) ≤ k := k0
    have h2 : k < 1 + ((0 : Nat) : Int) := k1
    omega⟩
  refine ⟨hR, ⟨by show per = ((per.toNat : Nat) : Int); omega, rfl, rfl, rfl, rfl⟩, ?_⟩
  obtain ⟨s1, -, -, s4⟩ := hR.sy
  have e0 : srtI (numsU [113] K0.F) = [] := by
    rw [show numsU [113] K0.F = [] from by kernel_rfl]
    simp [srtI]
  have hc : chkE K0 [113] per = 0 := by
    unfold chkE
    rw [if_neg (by decide), if_neg (by decide), if_neg (by decide), if_neg (by decide), if_neg (by omega)]
  rw [e0]
  unfold opnV
  rw [if_neg (by rw [hc]; simp)]
  show (if (0 : Int) ≠ 0 then _ else (syE (lg0 [113] per) K0, syL (lg0 [113] per) K0, syD (lg0 [113] per) K0)) = _
  rw [if_neg (by simp), s1, s4]
  rfl
end Go.Proofs.YtfpmcomigolacaaGreatDoor.wal
