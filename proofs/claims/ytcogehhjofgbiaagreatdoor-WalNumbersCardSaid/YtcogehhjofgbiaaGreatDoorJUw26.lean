/-
  A disk whose power does not fail: appends, syncs and drops of a log go through.
-/
import Derived.Test.YtcogehhjofgbiaaGreatDoorJUw25
set_option linter.unusedSimpArgs false
set_option linter.unusedVariables false
namespace Go.Proofs.YtcogehhjofgbiaaGreatDoor.wal
open Go.ChangeShapes Go.WideShapes Go.ChangeAt Go.RowKit Go.Maps Go.WideMaps
open Go.Proofs.YtcogehhjofgbiaaGreatDoor.opened Go.Proofs.YtcogehhjofgbiaaGreatDoor.block Go.Proofs.YtcogehhjofgbiaaGreatDoor.words Go.Proofs.YtcogehhjofgbiaaGreatDoor.disk Go.Proofs.YtcogehhjofgbiaaGreatDoor.tailed Go.Proofs.YtcogehhjofgbiaaGreatDoor.enc Go.Proofs.YtcogehhjofgbiaaGreatDoor.code
def Quiet (D : Dk) : Prop := D.off = false ∧ D.left = -1
theorem quiet_chk {D : Dk} (Q : Quiet D) {n : Bs} (hn : nameB n = true) : chk D n = 0 ∧ stpE D = 0 ∧ stpV D = D := by
  unfold chk stpE stpV
  rw [if_neg (by rw [Q.1]; simp), if_pos hn, Q.2]
  exact ⟨rfl, by simp, by simp⟩
theorem appQ {D : Dk} (Q : Quiet D) (G : GoodD D) {n s : Bs} (hn : nameB n = true) (hu : used D.F + s.length ≤ 262144) : appE D n s = 0 ∧ Quiet (appV D n s) ∧ used (appV D n s).F = used D.F + s.length ∧ (appV D n s).F.length ≤ D.F.length + 1 ∧ ∀ m, lk (appV D n s).F m = if m = n then some ⟨n, oldB D.F n ++ s, oldL D.F n⟩ else lk D.F m := by
  obtain ⟨h1, h2, h3⟩ := quiet_chk Q hn
  have he : appE D n s = 0 := by
    unfold appE
    rw [if_neg (by rw [h1]; simp), if_neg (by omega), h2]
  have hv : appV D n s = { D with F := put ⟨n, oldB D.F n ++ s, oldL D.F n⟩ D.F } := by
    unfold appV
    rw [if_pos he, h3]
  rw [hv]
  refine ⟨he, Q, old_len G.srt n s _, ?_, fun m => lk_put G.srt _ m⟩
  have := (put_perm ⟨n, oldB D.F n ++ s, oldL D.F n⟩ D.F).length_eq
  show (put _ D.F).length ≤ _
  rw [this, List.length_cons]
  have h4 : (del n D.F).length ≤ D.F.length := List.length_filter_le _ _
  exact Nat.succ_le_succ h4
theorem onQ {D : Dk} (Q : Quiet D) {n : Bs} (hn : nameB n = true) (hl : lk D.F n ≠ none) : onE D n = 0 := by
  obtain ⟨h1, h2, h3⟩ := quiet_chk Q hn
  unfold onE
  rw [if_neg (by rw [h1]; simp), if_neg hl, h2]
theorem synQ {D : Dk} (Q : Quiet D) (G : GoodD D) {n : Bs} (hn : nameB n = true) (hl : lk D.F n ≠ none) : onE D n = 0 ∧ Quiet (synV D n) ∧ used (synV D n).F = used D.F ∧ ∀ m, lk (synV D n).F m = if m = n then some ⟨n, oldB D.F n, (oldB D.F n).length⟩ else lk D.F m := by
  obtain ⟨h1, h2, h3⟩ := quiet_chk Q hn
  have he := onQ Q hn hl
  have hv : synV D n = { D with F := put ⟨n, oldB D.F n, (oldB D.F n).length⟩ D.F } := by
    unfold synV
    rw [if_pos he, h3]
  rw [hv]
  refine ⟨he, Q, ?_, fun m => lk_put G.srt _ m⟩
  have := old_len G.srt n [] (oldB D.F n).length
  rw [List.append_nil] at this
  simpa using this
theorem remQ {D : Dk} (Q : Quiet D) (G : GoodD D) {n : Bs} (hn : nameB n = true) (hl : lk D.F n ≠ none) : onE D n = 0 ∧ Quiet (remV D n) ∧ used (remV D n).F ≤ used D.F ∧ ∀ m, lk (remV D n).F m = if m = n then none else lk D.F m := by
  obtain ⟨h1, h2, h3⟩ := quiet_chk Q hn
  have he := onQ Q hn hl
  have hv : remV D n = { D with F := del n D.F } := by
    unfold remV
    rw [if_pos he, h3]
  rw [hv]
  exact ⟨he, Q, used_filter _ _, fun m => lk_del G.srt n m⟩
/-- A log whose calls go through. -/
structure Run (L : Lg) (D : Dk) : Prop where
  good : GoodL L
  gd : GoodD D
  bare : Bare L
  q : Quiet D
  fail : L.fail = false
  names : ∀ k, 1 ≤ k → k ≤ 999 → nameB (fn L.nm k) = true
  there : ∀ k, L.least ≤ k → k < nextF L → lk D.F (fn L.nm k) ≠ none
theorem Run.last {L : Lg} {D : Dk} (R : Run L D) (hz : L.heads ≠ []) : 1 ≤ nextF L - 1 ∧ nextF L - 1 ≤ 999 ∧ lk D.F (lastF L) ≠ none := by
  have h1 : 0 < L.heads.length := List.length_pos_iff.2 hz
  have h2 := R.good.lo
  have h3 := R.good.hi
  have h4 : nextF L = L.least + L.heads.length := rfl
  exact ⟨by omega, by omega, R.there _ (by omega) (by omega)⟩
theorem Run.sl {L : Lg} {D : Dk} (R : Run L D) : slE L D = 0 ∧ Quiet (slD L D) ∧ used (slD L D).F = used D.F ∧ ∀ m, lk D.F m ≠ none → lk (slD L D).F m ≠ none := by
  unfold slE slD
  have hoff : ¬ D.off = true := by rw [R.q.1]; simp
  simp only [if_neg hoff]
  by_cases hz : L.heads = []
  · simp only [if_pos hz]
    exact ⟨trivial, R.q, trivial, fun _ h => h⟩
  · simp only [if_neg hz]
    obtain ⟨l1, l2, l3⟩ := R.last hz
    have hr : readE D (lastF L) = 0 := by
      unfold readE
      rw [if_neg (by rw [R.q.1]; simp), if_neg l3]
    have hr2 : ¬ readE D (lastF L) ≠ 0 := by rw [hr]; simp
    simp only [if_neg hr2]
    have hn : nameB (lastF L) = true := R.names _ l1 l2
    split
    · exact ⟨rfl, R.q, rfl, fun _ h => h⟩
    · obtain ⟨e1, e2, e3, e4⟩ := synQ R.q R.gd hn l3
      refine ⟨e1, e2, e3, fun m hm => ?_⟩
      rw [e4]
      split
      · simp
      · exact hm
theorem Run.sy {L : Lg} {D : Dk} (R : Run L D) : syE L D = 0 ∧ Run (syL L D) (syD L D) ∧ used (syD L D).F = used D.F ∧ syL L D = { L with syn := nextN L } := by
  obtain ⟨h1, h2, h3, h4⟩ := R.sl
  have e1 : syE L D = 0 := by unfold syE; rw [if_neg (by rw [R.fail]; simp), h1]
  have e2 : syD L D = slD L D := by unfold syD; rw [if_neg (by rw [R.fail]; simp)]
  have e3 : syL L D = { L with syn := nextN L } := by unfold syL; rw [if_neg (by rw [R.fail]; simp), if_neg (by rw [h1]; simp)]
  refine ⟨e1, ⟨good_sy R.good D, (good_syD R.gd L).1, bare_sy R.bare D, by rw [e2]; exact h2, by rw [e3]; exact R.fail, by rw [e3]; exact R.names, ?_⟩, by rw [e2]; exact h3, e3⟩
  rw [e3, e2]
  exact fun k k0 k1 => h4 _ (R.there k k0 k1)
theorem newB_len (L : Lg) (s : Bs) (hs : s.length ≤ 4096) : (newB L s).length ≤ s.length + 38 ∧ (frameL s).length ≤ s.length + 14 := by
  have h1 := len_enc (nextN L).toNat
  have h2 := len_enc (enc (nextN L).toNat).length
  have h3 := len_enc s.length
  unfold newB
  rw [List.length_append, frame_len, frame_len]
  omega
/-- An append. -/
theorem Run.app {L : Lg} {D : Dk} (R : Run L D) {s : Bs} (hs : s.length ≤ 4096) (hf : nextF L ≤ 999) (hu : used D.F + (s.length + 38) ≤ 262144) :
    apE L D s = 0 ∧ Run (apL L D s) (apD L D s) ∧ used (apD L D s).F ≤ used D.F + (s.length + 38) ∧ (apD L D s).F.length ≤ D.F.length + 2 ∧ (apL L D s).recs = L.recs ++ [s] ∧ (apL L D s).heads = (if closedB L = true then L.heads ++ [nextN L] else L.heads) ∧ (apL L D s).nm = L.nm ∧ (apL L D s).per = L.per ∧ (apL L D s).least = L.least ∧ (L.torn = false → (apL L D s).torn = false) := by
  obtain ⟨n1, n2⟩ := newB_len L s hs
  obtain ⟨s1, s2, s3, s4⟩ := R.sy
  have hlo := R.good.lo
  have hnf : nextF L = L.least + L.heads.length := rfl
  have hnn : nameB (fn L.nm (nextF L)) = true := R.names _ (by omega) (by omega)
  have hw : wrE L D s = 0 := by
    unfold wrE
    split
    · unfold bgE
      rw [if_neg (by omega), if_neg (by rw [s1]; simp)]
      exact (appQ s2.q s2.gd hnn (by omega)).1
    · rename_i hc
      have hz : L.heads ≠ [] := fun e => hc (by unfold closedB; simp [e])
      obtain ⟨l1, l2, l3⟩ := R.last hz
      exact (appQ R.q R.gd (R.names _ l1 l2) (by omega)).1
  have he : apE L D s = 0 := by
    unfold apE
    rw [if_neg (by rw [R.fail]; simp), if_neg (by omega), hw]
  obtain ⟨o1, o2, o3, o4, o5⟩ := ap_ok he
  have hgL := good_apL (D := D) (s := s) R.good R.bare
  have hgD := good_apD R.gd L s
  have hbr := bare_apL (D := D) (s := s) R.bare
  refine ⟨he, ?_⟩
  unfold wrL at o4
  unfold wrD at o5
  by_cases hc : closedB L = true
  · rw [if_pos hc] at o4 o5
    have hb : bgE L D s = 0 := by have := hw; unfold wrE at this; rwa [if_pos hc] at this
    obtain ⟨-, -, -, b4, b5⟩ := bg_ok hb
    have hL : apL L D s = { L with syn := nextN L, heads := L.heads ++ [nextN L], torn := false, recs := L.recs ++ [s] } := by rw [o4, b4, s4]
    have hD : apD L D s = appV (syD L D) (fn L.nm (nextF L)) (newB L s) := by rw [o5, b5]
    obtain ⟨a1, a2, a3, a4, a5⟩ := appQ s2.q s2.gd hnn (s := newB L s) (by omega)
    rw [← hD] at a2 a3 a4 a5
    have hF := (good_syD R.gd L).2
    rw [if_pos hc]
    refine ⟨⟨hgL, hgD, hbr, a2, by rw [hL]; exact R.fail, by rw [hL]; exact R.names, fun k k0 k1 => ?_⟩, by omega, by omega, by rw [hL], by rw [hL], by rw [hL], by rw [hL], by rw [hL], fun _ => by rw [hL]⟩
    have hnm : (apL L D s).nm = L.nm := by rw [hL]
    have hnF : nextF (apL L D s) = nextF L + 1 := by
      rw [hL]
      show L.least + ((L.heads ++ [nextN L]).length : Int) = _
      rw [List.length_append, hnf]
      simp
      omega
    have hle : (apL L D s).least = L.least := by rw [hL]
    rw [hnm, a5]
    split
    · simp
    · rename_i hne
      rw [hle] at k0
      rw [hnF] at k1
      have hk : k ≠ nextF L := fun e => hne (by rw [e])
      have := s2.there k (by rw [s4]; exact k0) (by rw [s4]; show k < nextF L; omega)
      rw [s4] at this
      exact this
  · rw [if_neg hc] at o4 o5
    have hz : L.heads ≠ [] := fun e => hc (by unfold closedB; simp [e])
    obtain ⟨l1, l2, l3⟩ := R.last hz
    obtain ⟨a1, a2, a3, a4, a5⟩ := appQ R.q R.gd (R.names _ l1 l2) (s := frameL s) (by omega)
    have hD : apD L D s = appV D (lastF L) (frameL s) := o5
    have hL : apL L D s = { L with recs := L.recs ++ [s] } := o4
    have hD2 : appV D (fn L.nm (nextF L - 1)) (frameL s) = apD L D s := hD.symm
    rw [hD2] at a2 a3 a4 a5
    rw [if_neg hc]
    refine ⟨⟨hgL, hgD, hbr, a2, by rw [hL]; exact R.fail, by rw [hL]; exact R.names, fun k k0 k1 => ?_⟩, by omega, by omega, by rw [hL], by rw [hL], by rw [hL], by rw [hL], by rw [hL], fun h => by rw [hL]; exact h⟩
    rw [hL] at k0 k1 ⊢
    rw [a5]
    split
    · simp
    · exact R.there k k0 k1
/-- A file is dropped. -/
theorem Run.df {L : Lg} {D : Dk} (R : Run L D) {n : Int} (hp : pastB L n = true) : dfE L D = 0 ∧ Run (dfV L) (dfD L D) := by
  obtain ⟨g1, -, -, gn, -, -⟩ := good_df R.good hp
  have h2 : 2 ≤ L.heads.length := by
    unfold pastB at hp
    cases e : L.heads with
    | nil => rw [e] at hp; cases hp
    | cons a t =>
      cases e2 : t with
      | nil => rw [e, e2] at hp; cases hp
      | cons b r => simp
  have hlo := R.good.lo
  have hhi := R.good.hi
  have hnf : nextF L = L.least + L.heads.length := rfl
  have hnf2 : nextF (dfV L) = nextF L := by
    show L.least + 1 + (L.heads.tail.length : Int) = _
    rw [List.length_tail, hnf]
    omega
  obtain ⟨e1, e2, e3, e4⟩ := remQ R.q R.gd (R.names L.least hlo (by omega)) (R.there L.least (Int.le_refl _) (by omega))
  refine ⟨e1, g1, good_rem R.gd _, bare_df hp, e2, R.fail, R.names, fun k k0 k1 => ?_⟩
  have k0' : L.least + 1 ≤ k := k0
  rw [hnf2] at k1
  show lk (remV D (fn L.nm L.least)).F (fn L.nm k) ≠ none
  rw [e4, if_neg (fun e => by have := fn_inj (by omega) (by omega) (by omega) (by omega) e; omega)]
  exact R.there k (by omega) k1
end Go.Proofs.YtcogehhjofgbiaaGreatDoor.wal
