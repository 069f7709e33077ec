/-
  What calls of a log do to its measures, and to files that are none of its own.
  Arm and Mend under a log; two logs on one disk.
-/
import Derived.Test.YtfpmcomigolacaaGreatDoorJUop
import Derived.Test.YtfpmcomigolacaaGreatDoorJUw25
set_option linter.unusedSimpArgs false
set_option linter.unusedVariables false
namespace Go.Proofs.YtfpmcomigolacaaGreatDoor.wal
open Go.Proofs.YtfpmcomigolacaaGreatDoor.enc Go.Proofs.YtfpmcomigolacaaGreatDoor.code Go.Proofs.YtfpmcomigolacaaGreatDoor.crcm Go.Proofs.YtfpmcomigolacaaGreatDoor.words Go.Proofs.YtfpmcomigolacaaGreatDoor.disk

/-! ### The disk -/
theorem app_used {D : Dk} (G : GoodD D) (n s : Bs) : used (appV D n s).F ≤ used D.F + s.length ∧ (appV D n s).F.length ≤ D.F.length + 1 := by
  unfold appV
  split
  · constructor
    · show used (put _ D.F) ≤ _
      rw [old_len G.srt]
      exact Nat.le_refl _
    · show (put _ D.F).length ≤ _
      rw [(put_perm _ D.F).length_eq, List.length_cons]
      exact Nat.succ_le_succ (List.length_filter_le _ _)
  · split
    · rw [stpV_F]
      omega
    · omega
theorem syn_used {D : Dk} (G : GoodD D) (n : Bs) : used (synV D n).F = used D.F := by
  unfold synV
  split
  · show used (put _ D.F) = _
    have := old_len G.srt n [] (oldB D.F n).length
    rw [List.append_nil] at this
    simpa using this
  · unfold onV
    split
    · rw [stpV_F]
    · rfl
theorem rem_used {D : Dk} (n : Bs) : used (remV D n).F ≤ used D.F := by
  unfold remV
  split
  · exact used_filter _ _
  · unfold onV
    split
    · rw [stpV_F]
      exact Nat.le_refl _
    · exact Nat.le_refl _
theorem sl_used {D : Dk} (G : GoodD D) (L : Lg) : used (slD L D).F = used D.F := by
  unfold slD
  split
  · rfl
  split
  · rfl
  split
  · rfl
  split
  · rfl
  · exact syn_used G _
theorem sy_used {D : Dk} (G : GoodD D) (L : Lg) : used (syD L D).F = used D.F := by
  unfold syD
  split
  · rfl
  · exact sl_used G L
theorem quiet_stp {D : Dk} (Q : Quiet D) : stpV D = D := by
  unfold stpV
  rw [Q.2, if_neg (by decide), if_neg (by decide)]
theorem quiet_app {D : Dk} (Q : Quiet D) (n s : Bs) : Quiet (appV D n s) := by
  unfold appV
  rw [quiet_stp Q]
  split
  · exact Q
  · split <;> exact Q
theorem quiet_on {D : Dk} (Q : Quiet D) (n : Bs) : Quiet (onV D n) := by
  unfold onV
  rw [quiet_stp Q]
  split <;> exact Q
theorem quiet_syn {D : Dk} (Q : Quiet D) (n : Bs) : Quiet (synV D n) := by
  have := quiet_on Q n
  unfold synV
  rw [quiet_stp Q]
  split
  · exact Q
  · exact this
theorem quiet_rem {D : Dk} (Q : Quiet D) (n : Bs) : Quiet (remV D n) := by
  have := quiet_on Q n
  unfold remV
  rw [quiet_stp Q]
  split
  · exact Q
  · exact this
theorem quiet_sy {D : Dk} (Q : Quiet D) (L : Lg) : Quiet (syD L D) := by
  unfold syD slD
  split
  · exact Q
  split
  · exact Q
  split
  · exact Q
  split
  · exact Q
  split
  · exact Q
  · exact quiet_syn Q _
theorem quiet_ap {D : Dk} (Q : Quiet D) (L : Lg) (s : Bs) : Quiet (apD L D s) := by
  unfold apD wrD bgD
  split
  · exact Q
  split
  · exact Q
  split
  · split
    · exact Q
    split
    · exact quiet_sy Q L
    · exact quiet_app (quiet_sy Q L) _ _
  · exact quiet_app Q _ _
theorem quiet_drF : ∀ (k : Nat) (L : Lg) (D : Dk) (n : Int), Quiet D → Quiet (drF k L D n).2.2
  | 0, _, _, _, Q => Q
  | k + 1, L, D, n, Q => by
    unfold drF
    split
    · split
      · exact quiet_rem Q _
      · exact quiet_drF k _ _ n (quiet_rem Q _)
    · exact Q
theorem quiet_dr {D : Dk} (Q : Quiet D) (L : Lg) (n : Int) : Quiet (drV L D n).2.2 := by
  unfold drV
  split
  · exact Q
  split
  · exact Q
  split
  · exact quiet_sy Q L
  · exact quiet_drF _ _ _ n (quiet_sy Q L)

/-! ### A log -/
/-- Its name, so many records a file, its measures. -/
structure Kp (nm : Bs) (per : Int) (i : Nat) (L : Lg) : Prop where
  good : GoodL L
  bare : Bare L
  nm : L.nm = nm
  per : L.per = per
  next : nextN L ≤ (i : Int)
  files : nextF L ≤ 1 + (i : Int)
structure Sz (i : Nat) (D : Dk) : Prop where
  gd : GoodD D
  used : used D.F ≤ i * 4134
  len : D.F.length ≤ 2 * i
theorem Kp.recs {nm : Bs} {per : Int} {i : Nat} {L : Lg} (h : Kp nm per i L) : L.recs.length ≤ i := by
  have h1 := h.next
  have h2 := h.good.base
  unfold nextN at h1
  omega
theorem Kp.more {nm : Bs} {per : Int} {i j : Nat} {L : Lg} (h : Kp nm per i L) (hij : i ≤ j) : Kp nm per j L := ⟨h.good, h.bare, h.nm, h.per, by have := h.next; omega, by have := h.files; omega⟩
set_option maxRecDepth 100000 in
theorem Sz.more {i j : Nat} {D : Dk} (h : Sz i D) (hij : i ≤ j) : Sz j D := ⟨h.gd, by have := h.used; have := Nat.mul_le_mul_right 4134 hij; omega, by have := h.len; omega⟩
theorem ap_fields (L : Lg) (D : Dk) (s : Bs) : (apL L D s).nm = L.nm ∧ (apL L D s).per = L.per ∧ (apL L D s).least = L.least ∧ ((apL L D s).heads = L.heads ∨ (apL L D s).heads = L.heads ++ [nextN L]) ∧ (apL L D s).recs = (if apE L D s = 0 then L.recs ++ [s] else L.recs) := by
  obtain ⟨s1, s2, s3, s4, s5, s6⟩ := sy_fields L D
  have hw : (wrL L D s).nm = L.nm ∧ (wrL L D s).per = L.per ∧ (wrL L D s).least = L.least ∧ ((wrL L D s).heads = L.heads ∨ (wrL L D s).heads = L.heads ++ [nextN L]) ∧ (wrL L D s).recs = L.recs := by
    unfold wrL bgL
    split
    · split
      · exact ⟨rfl, rfl, rfl, .inl rfl, rfl⟩
      split
      · exact ⟨s1, s2, s3, .inl s4, s5⟩
      split
      · exact ⟨s1, s2, s3, .inl s4, s5⟩
      · exact ⟨s1, s2, s3, .inr rfl, s5⟩
    · exact ⟨rfl, rfl, rfl, .inl rfl, rfl⟩
  obtain ⟨w1, w2, w3, w4, w5⟩ := hw
  unfold apL apE
  by_cases hf : L.fail = true
  · rw [if_pos hf, if_pos hf, if_neg (by decide)]
    exact ⟨rfl, rfl, rfl, .inl rfl, rfl⟩
  rw [if_neg hf, if_neg hf]
  by_cases hl : 4096 < s.length
  · rw [if_pos hl, if_pos hl, if_neg (by decide)]
    exact ⟨rfl, rfl, rfl, .inl rfl, rfl⟩
  rw [if_neg hl, if_neg hl]
  by_cases hw : wrE L D s ≠ 0
  · obtain ⟨q1, q2, q3, q4, q5, q6, q7⟩ := note_fields (wrL L D s) (wrE L D s)
    rw [if_pos hw, if_neg hw]
    exact ⟨q1.trans w1, q2.trans w2, q3.trans w3, by rw [q4]; exact w4, q5.trans w5⟩
  · rw [if_neg hw, if_pos (by simpa using hw)]
    exact ⟨w1, w2, w3, w4, rfl⟩
theorem ap_next {L : Lg} {D : Dk} (hb : Bare L) (s : Bs) : baseN (apL L D s) = baseN L ∧ nextN (apL L D s) = nextN L + (if apE L D s = 0 then 1 else 0) ∧ nextF (apL L D s) ≤ nextF L + 1 ∧ nextF L ≤ nextF (apL L D s) := by
  obtain ⟨f1, f2, f3, f4, f5⟩ := ap_fields L D s
  have hbase : baseN (apL L D s) = baseN L := by
    rcases f4 with f4 | f4
    · unfold baseN
      rw [f4]
    · unfold baseN
      rw [f4]
      cases e : L.heads with
      | nil =>
        have : L.recs = [] := hb e
        unfold nextN baseN
        rw [e, this]
        rfl
      | cons a r => rfl
  refine ⟨hbase, ?_, ?_, ?_⟩
  · unfold nextN
    rw [hbase, f5]
    split
    · rw [List.length_append, List.length_singleton]
      push_cast
      omega
    · omega
  · unfold nextF
    rw [f3]
    rcases f4 with f4 | f4
    · rw [f4]
      omega
    · rw [f4, List.length_append, List.length_singleton]
      push_cast
      omega
  · unfold nextF
    rw [f3]
    rcases f4 with f4 | f4
    · rw [f4]
      omega
    · rw [f4, List.length_append, List.length_singleton]
      push_cast
      omega
set_option maxRecDepth 100000 in
theorem ap_sz {L : Lg} {D : Dk} {i : Nat} (h : Sz i D) (s : Bs) : Sz (i + 1) (apD L D s) := by
  have h1 := h.used
  have h2 := h.len
  have hu := sy_used h.gd L
  obtain ⟨g1, g2⟩ := good_syD h.gd L
  refine ⟨good_apD h.gd L s, ?_, ?_⟩
  · unfold apD wrD bgD
    split
    · omega
    split
    · omega
    rename_i hs
    obtain ⟨n1, n2⟩ := newB_len L s (by omega)
    split
    · split
      · omega
      split
      · omega
      · have := (app_used g1 (fn L.nm (nextF L)) (newB L s)).1
        omega
    · have := (app_used h.gd (lastF L) (frameL s)).1
      omega
  · unfold apD wrD bgD
    split
    · omega
    split
    · omega
    split
    · split
      · omega
      split
      · omega
      · have := (app_used g1 (fn L.nm (nextF L)) (newB L s)).2
        omega
    · have := (app_used h.gd (lastF L) (frameL s)).2
      omega
theorem Kp.app {nm : Bs} {per : Int} {i : Nat} {L : Lg} (h : Kp nm per i L) (D : Dk) (s : Bs) : Kp nm per (i + 1) (apL L D s) := by
  obtain ⟨f1, f2, f3, f4, f5⟩ := ap_fields L D s
  obtain ⟨n1, n2, n3, n4⟩ := ap_next (D := D) h.bare s
  have h1 := h.next
  have h2 := h.files
  exact ⟨good_apL h.good h.bare, bare_apL h.bare, f1.trans h.nm, f2.trans h.per, by rw [n2]; split <;> (push_cast; omega), by push_cast; omega⟩
set_option maxRecDepth 100000 in
theorem sy_sz {L : Lg} {D : Dk} {i : Nat} (h : Sz i D) : Sz (i + 1) (syD L D) := by
  have h1 := h.used
  have h2 := h.len
  have hu := sy_used h.gd L
  obtain ⟨g1, g2⟩ := good_syD h.gd L
  exact ⟨g1, by omega, by omega⟩
theorem Kp.sync {nm : Bs} {per : Int} {i : Nat} {L : Lg} (h : Kp nm per i L) (D : Dk) : Kp nm per i (syL L D) := by
  obtain ⟨s1, s2, s3, s4, s5, s6⟩ := sy_fields L D
  obtain ⟨n1, n2, n3⟩ := sy_next L D
  exact ⟨good_sy h.good D, bare_sy h.bare D, s1.trans h.nm, s2.trans h.per, by rw [n1]; exact h.next, by rw [n2]; exact h.files⟩
theorem drF_fields : ∀ (k : Nat) (L : Lg) (D : Dk) (n : Int), (drF k L D n).2.1.nm = L.nm ∧ (drF k L D n).2.1.per = L.per ∧ nextF (drF k L D n).2.1 = nextF L ∧ used (drF k L D n).2.2.F ≤ used D.F
  | 0, _, _, _ => ⟨rfl, rfl, rfl, Nat.le_refl _⟩
  | k + 1, L, D, n => by
    unfold drF
    split
    · rename_i hp
      split
      · obtain ⟨q1, q2, q3, q4, q5, q6, q7⟩ := note_fields L (dfE L D)
        exact ⟨q1, q2, by unfold nextF; rw [q3, q4], rem_used _⟩
      · obtain ⟨h1, h2, h3, h4⟩ := drF_fields k (dfV L) (dfD L D) n
        refine ⟨h1, h2, h3.trans ?_, Nat.le_trans h4 (rem_used _)⟩
        show L.least + 1 + (L.heads.tail.length : Int) = L.least + L.heads.length
        have : L.heads ≠ [] := by
          intro e
          unfold pastB at hp
          rw [e] at hp
          cases hp
        have := List.length_pos_iff.2 this
        rw [List.length_tail]
        omega
    · exact ⟨rfl, rfl, rfl, Nat.le_refl _⟩
theorem dr_fields {L : Lg} {D : Dk} (G : GoodD D) (n : Int) : (drV L D n).2.1.nm = L.nm ∧ (drV L D n).2.1.per = L.per ∧ nextF (drV L D n).2.1 = nextF L ∧ used (drV L D n).2.2.F ≤ used D.F := by
  obtain ⟨s1, s2, s3, s4, s5, s6⟩ := sy_fields L D
  obtain ⟨n1, n2, n3⟩ := sy_next L D
  have hu := sy_used G L
  unfold drV
  split
  · exact ⟨rfl, rfl, rfl, Nat.le_refl _⟩
  split
  · exact ⟨rfl, rfl, rfl, Nat.le_refl _⟩
  split
  · exact ⟨s1, s2, n2, Nat.le_of_eq hu⟩
  · obtain ⟨h1, h2, h3, h4⟩ := drF_fields L.heads.length (syL L D) (syD L D) n
    exact ⟨h1.trans s1, h2.trans s2, h3.trans n2, by omega⟩
set_option maxRecDepth 100000 in
theorem dr_sz {L : Lg} {D : Dk} {nm : Bs} {per : Int} {i k : Nat} (hk : Kp nm per k L) (h : Sz i D) (n : Int) : Sz (i + 1) (drV L D n).2.2 := by
  obtain ⟨g1, g2, g3, g4, g5⟩ := good_drV (n := n) hk.good hk.bare h.gd
  obtain ⟨f1, f2, f3, f4⟩ := dr_fields (L := L) h.gd n
  have h1 := h.used
  have h2 := h.len
  exact ⟨g3, by omega, by omega⟩
theorem Kp.drop {nm : Bs} {per : Int} {i : Nat} {L : Lg} {D : Dk} (h : Kp nm per i L) (G : GoodD D) (n : Int) : Kp nm per i (drV L D n).2.1 := by
  obtain ⟨g1, g2, g3, g4, g5⟩ := good_drV (n := n) h.good h.bare G
  obtain ⟨f1, f2, f3, f4⟩ := dr_fields (L := L) G n
  exact ⟨g1, g2, f1.trans h.nm, f2.trans h.per, by rw [g5]; exact h.next, by rw [f3]; exact h.files⟩
/-- An append leaves files that are none of the log's. -/
theorem ap_other {L : Lg} {D : Dk} (G : GoodL L) (GD : GoodD D) (s m : Bs) (hm : ∀ k, m ≠ fn L.nm k) : lk (apD L D s).F m = lk D.F m := by
  have hsy : lk (syD L D).F m = lk D.F m := by
    unfold syD
    split
    · rfl
    · rw [sl_lk GD, if_neg (by rintro ⟨-, -, h⟩; exact hm _ h)]
  unfold apD wrD bgD
  split
  · rfl
  split
  · rfl
  split
  · split
    · rfl
    split
    · exact hsy
    · rw [app_lk (good_syD GD L).1, if_neg (by rintro ⟨-, h⟩; exact hm _ h)]
      exact hsy
  · rw [app_lk GD, if_neg (by rintro ⟨-, h⟩; exact hm _ h)]
theorem fn_qr (j k : Int) : fn [113] j ≠ fn [114] k := by
  intro h
  unfold fn at h
  simp at h
/-! ### A log that is new -/
theorem opn_new {nm : Bs} {per : Int} (hn : nameB nm = true) (hl : nm.length ≤ 8) (hd : isDig (nm.getLast?.getD 0) = false) (hp : 1 ≤ per ∧ per ≤ 64) : opnV K0 nm per (srtI (numsU nm K0.F)) = (0, lg0 nm per, K0) := by
  have e0 : srtI (numsU nm K0.F) = [] := by
    rw [show numsU nm K0.F = [] from rfl]
    simp [srtI]
  have hc : chkE K0 nm per = 0 := by
    unfold chkE
    rw [if_neg (by decide), if_neg (by rw [hn]; decide), if_neg (by omega), if_neg (by rw [hd]; decide), if_neg (by omega)]
  have h1 : slE (lg0 nm per) K0 = 0 := by
    unfold slE
    rw [if_neg (by decide), if_pos (show (lg0 nm per).heads = [] from rfl)]
  have h2 : slD (lg0 nm per) K0 = K0 := by
    unfold slD
    rw [if_neg (by decide), if_pos (show (lg0 nm per).heads = [] from rfl)]
  have e1 : syE (lg0 nm per) K0 = 0 := by unfold syE; rw [if_neg (show ¬ (lg0 nm per).fail = true from Bool.false_ne_true), h1]
  have e2 : syD (lg0 nm per) K0 = K0 := by unfold syD; rw [if_neg (show ¬ (lg0 nm per).fail = true from Bool.false_ne_true), h2]
  have e3 : syL (lg0 nm per) K0 = lg0 nm per := by unfold syL; rw [if_neg (show ¬ (lg0 nm per).fail = true from Bool.false_ne_true), if_neg (by rw [h1]; decide)]; rfl
  rw [e0]
  unfold opnV
  rw [if_neg (by rw [hc]; decide)]
  show (if (0 : Int) ≠ 0 then _ else (syE (lg0 nm per) K0, syL (lg0 nm per) K0, syD (lg0 nm per) K0)) = _
  rw [if_neg (by decide), e1, e2, e3]
theorem inv_new (nm : Bs) (per : Int) : Inv (lg0 nm per) K0 [] := by
  have := inv_lgOf (nm := nm) (per := per) (least := 1) (b := 0) (gs := []) (D := K0) trivial (Int.le_refl _) (fun _ hx => nomatch hx) (fun j f hj => by cases hj) (fun _ _ _ _ => rfl)
  exact this
theorem kp_new {nm : Bs} (per : Int) (hl : nm.length ≤ 8) : Kp nm per 0 (lg0 nm per) := ⟨(tk_zero per hl).good, fun _ => rfl, rfl, rfl, Int.le_refl _, Int.le_refl _⟩
theorem sz_new : Sz 0 K0 := ⟨good_new, Nat.le_refl _, Nat.le_refl _⟩
theorem srt_one_f {F : List Fl} (h : Srt F) {i j : Nat} {f g : Fl} (hi : F[i]? = some f) (hj : F[j]? = some g) (e : f.n = g.n) : i = j := by
  obtain ⟨i1, i2⟩ := List.getElem?_eq_some_iff.1 hi
  obtain ⟨j1, j2⟩ := List.getElem?_eq_some_iff.1 hj
  unfold Srt at h
  rw [List.pairwise_iff_getElem] at h
  rcases Nat.lt_trichotomy i j with h1 | h1 | h1
  · have := h i j i1 j1 h1
    rw [i2, j2, e] at this
    exact absurd this (lt_irr _)
  · exact h1
  · have := h j i j1 i1 h1
    rw [i2, j2, e] at this
    exact absurd this (lt_irr _)
theorem mem_mend_f (keep : List Int) : ∀ {F : List Fl} {i j : Nat} {f : Fl}, F[j]? = some f → leftN keep (i + j) f ≠ 0 → mendF keep (i + j) f ∈ mendL keep i F
  | x :: r, i, j, f, h, h0 => by
    unfold mendL
    cases j with
    | zero =>
      obtain rfl : x = f := by simpa using h
      rw [Nat.add_zero] at h0 ⊢
      rw [if_neg h0]
      simp
    | succ j =>
      have h' : r[j]? = some f := by simpa using h
      have ih := mem_mend_f keep (F := r) (i := i + 1) (j := j) h' (by rw [show i + 1 + j = i + (j + 1) by omega]; exact h0)
      rw [show i + 1 + j = i + (j + 1) by omega] at ih
      split
      · exact ih
      · simp [ih]
theorem mend_lk' {F : List Fl} (hs : Srt F) (keep : List Int) {i : Nat} {f : Fl} (h : F[i]? = some f) : lk (mendL keep 0 F) f.n = if leftN keep i f = 0 then none else some (mendF keep i f) := by
  split
  · rename_i h0
    refine lk_none.2 fun x hx e => ?_
    obtain ⟨j, g, h1, h2, rfl⟩ := mend_mem keep hx
    rw [Nat.zero_add] at h2
    have := srt_one_f hs h1 h e
    subst this
    rw [h] at h1
    cases h1
    exact h2 h0
  · rename_i h0
    have := mem_mend_f keep (i := 0) h (by rw [Nat.zero_add]; exact h0)
    rw [Nat.zero_add] at this
    exact lk_mem (srt_mend hs keep 0) this
theorem cut_mend {nm : Bs} {D : Dk} (G : GoodD D) (keep : List Int) : Cut nm D (mendV D keep) := by
  refine ⟨rfl, rfl, fun k _ _ => ⟨fun h => ?_, fun f hf => ?_⟩⟩
  · refine lk_none.2 fun x hx e => ?_
    obtain ⟨j, g, h1, h2, rfl⟩ := mend_mem keep hx
    exact lk_none.1 h g (List.mem_of_getElem? h1) e
  · obtain ⟨h1, h2⟩ := lk_some hf
    obtain ⟨i, hi, he⟩ := List.mem_iff_getElem.1 h1
    have hj : D.F[i]? = some f := List.getElem?_eq_some_iff.2 ⟨hi, he⟩
    have := mend_lk' G.srt keep hj
    rw [h2] at this
    by_cases h0 : leftN keep i f = 0
    · rw [if_pos h0] at this
      left
      exact ⟨this, by have := leftN_lo keep i f; omega⟩
    · rw [if_neg h0] at this
      right
      refine ⟨leftN keep i f, leftN keep i f, leftN_lo keep i f, leftN_hi keep i (G.lasts f h1), leftN_lo keep i f, Nat.le_refl _, ?_⟩
      show lk (mendL keep 0 D.F) (fn nm k) = _
      rw [this, ← h2]
      rfl
set_option maxRecDepth 100000 in
theorem mend_sz {D : Dk} {i : Nat} (h : Sz i D) (keep : List Int) : Sz i (mendV D keep) := by
  refine ⟨good_mend h.gd keep, Nat.le_trans (used_mend keep _ _) h.used, ?_⟩
  have := (mend_names keep D.F 0).length_le
  rw [List.length_map, List.length_map] at this
  have h2 := h.len
  show (mendL keep 0 D.F).length ≤ _
  omega
set_option maxRecDepth 100000 in
theorem arm_sz {D : Dk} {i : Nat} (h : Sz i D) {n : Int} (h0 : -9223372036854775808 ≤ n) (h1 : n ≤ 9223372036854775807) : Sz i (armV D n) := ⟨good_arm h.gd h0 h1, h.used, h.len⟩
end Go.Proofs.YtfpmcomigolacaaGreatDoor.wal
set_option linter.unusedSimpArgs false
set_option linter.unusedVariables false
namespace Go.Proofs.YtfpmcomigolacaaGreatDoor.wal
open Go.ChangeShapes Go.WideShapes Go.ChangeAt Go.RowKit Go.Maps Go.WideMaps
open Go.Proofs.YtfpmcomigolacaaGreatDoor.opened Go.Proofs.YtfpmcomigolacaaGreatDoor.block Go.Proofs.YtfpmcomigolacaaGreatDoor.words Go.Proofs.YtfpmcomigolacaaGreatDoor.disk Go.Proofs.YtfpmcomigolacaaGreatDoor.tailed Go.Proofs.YtfpmcomigolacaaGreatDoor.enc Go.Proofs.YtfpmcomigolacaaGreatDoor.code
section
variable {B gd gl : Nat} {L : Lg} {D : Dk} {w w1 : World}
theorem armW (n : Int) (hB : B ≤ w.heap.size) (h : DiskB w B gd D) :
    Calls Tryz.prog 14 #[.pointer (some ⟨gd, 0, none⟩), .int .i64 n] w fun e w' => e = .returned (.tuple #[]) ∧ DiskB w' B gd (armV D n) ∧ WT w w' (fun _ => False) ∧ Below B w w' :=
  stepW hB h fun S hS => by
    obtain ⟨mb, E, h1, h2⟩ := hS
    exact (arm_any n w h1).mono fun _ _ ⟨e1, e2, e3, _⟩ => ⟨e1, DiskP.more ⟨mb, E, e2, h2⟩, turn_grown e3 (S := S) fun k e => by cases e; exact h2 gd (.inl rfl)⟩
theorem st_arm (h : St B gd gl L D w) (n : Int) (h0 : -9223372036854775808 ≤ n) (h1 : n ≤ 9223372036854775807) :
    Calls Tryz.prog 14 #[.pointer (some ⟨gd, 0, none⟩), .int .i64 n] w fun e w' => e = .returned (.tuple #[]) ∧ St B gd gl L (armV D n) w' ∧ Below B w w' := by
  obtain ⟨A, c, R, d, k1, k2⟩ := h.log
  exact (armW n h.le h.disk).mono fun e w' ⟨q1, q2, q3, q4⟩ => ⟨q1, ⟨⟨A, c, R, d, k1.wt q3 fun _ _ f => f, k2⟩, q2, h.env.step q4, h.good, good_arm h.gd h0 h1⟩, q4⟩
theorem mendN (G : GoodD D) (hF : D.F.length ≤ 1000) (K : Option Addr) (kc : Nat) (keep : List Int) (hk : ∀ x ∈ keep, x ≤ 9223372036854775807) (hkl : keep.length ≤ 100000) (hB : B ≤ w1.heap.size) (h : DiskB w1 B gd D) (hb : Below w1.heap.size w1 w) (hK : Lies w K (keep.map (Value.int .i64))) (hKn : ∀ a, K = some a → w1.heap.size ≤ a.block) :
    Calls Tryz.prog 15 #[.pointer (some ⟨gd, 0, none⟩), .slice K keep.length kc] w fun e w' => e = .returned (.tuple #[]) ∧ DiskB w' B gd (mendV D keep) ∧ WT w1 w' (fun _ => False) ∧ Below B w1 w' := by
  obtain ⟨mb, E, h1, h2⟩ := h
  have h1' : DiskE w gd mb D E := h1.same fun k hk => hb.block k (h1.inside hk)
  refine (mend_any G hF K kc keep hk hkl w (S := blk gd mb E) ⟨mb, E, h1', fun k hk => hk⟩ hK (fun a ha hh => by have := hKn a ha; have := h1.inside hh; omega)).mono fun e w' ⟨e1, e2, ht⟩ => ?_
  obtain ⟨u1, u2⟩ := up (Nat.le_trans hB hb.size) e2 h2 ht
  exact ⟨e1, u1, (wt_below hb (fun _ => False)).trans (wt_turn h1' ht (fun _ => False)) (fun _ q => q.elim), (hb.mono hB).trans u2⟩
/-- A log, wherever its disk is. -/
def Lat (w : World) (gl gd : Nat) (L : Lg) : Prop := ∃ A c R d, LogE w gl gd L A c R d
theorem Lat.wt {w w' : World} {gl gd : Nat} {L : Lg} (h : Lat w gl gd L) (k : WT w w' (fun _ => False)) : Lat w' gl gd L := by
  obtain ⟨A, c, R, d, h1⟩ := h
  exact ⟨A, c, R, d, h1.wt k fun _ _ f => f⟩
theorem Lat.below {w w' : World} {gl gd : Nat} {L : Lg} (h : Lat w gl gd L) (k : Below w.heap.size w w') : Lat w' gl gd L := by
  obtain ⟨A, c, R, d, h1⟩ := h
  exact ⟨A, c, R, d, h1.below k⟩
theorem St.lat (h : St B gd gl L D w) : Lat w gl gd L := by
  obtain ⟨A, c, R, d, k1, -⟩ := h.log
  exact ⟨A, c, R, d, k1⟩
theorem lat_get (h : Lat w gl gd L) (G : GoodL L) (hn : nextN L ≤ 1125899906842624) (n : Int) (n0 : -9223372036854775808 ≤ n) (n1 : n ≤ 9223372036854775807) :
    Calls Tryz.prog 20 #[.pointer (some ⟨gl, 0, none⟩), .int .i64 n] w fun e w' => e = .returned (.tuple #[sV (gtV L n), .int .i64 (gtE L n)]) ∧ Below w.heap.size w w' := by
  obtain ⟨A, c, R, d, h1⟩ := h
  exact get_any G hn n n0 n1 h1
theorem lat_next (h : Lat w gl gd L) (G : GoodL L) (hn : nextN L ≤ 1125899906842624) : Calls Tryz.prog 16 #[.pointer (some ⟨gl, 0, none⟩)] w fun e w' => e = .returned (.int .i64 (nextN L)) ∧ Below w.heap.size w w' := by
  obtain ⟨A, c, R, d, h1⟩ := h
  exact next_any G hn h1
theorem lat_base (h : Lat w gl gd L) : Calls Tryz.prog 19 #[.pointer (some ⟨gl, 0, none⟩)] w fun e w' => e = .returned (.int .i64 (baseN L)) ∧ Below w.heap.size w w' := by
  obtain ⟨A, c, R, d, h1⟩ := h
  exact base_any h1
theorem lat_files (h : Lat w gl gd L) : Calls Tryz.prog 18 #[.pointer (some ⟨gl, 0, none⟩)] w fun e w' => e = .returned (.int .i64 (L.heads.length : Int)) ∧ Below w.heap.size w w' := by
  obtain ⟨A, c, R, d, h1⟩ := h
  exact files_any h1
theorem lat_synced (h : Lat w gl gd L) : Calls Tryz.prog 17 #[.pointer (some ⟨gl, 0, none⟩)] w fun e w' => e = .returned (.int .i64 L.syn) ∧ Below w.heap.size w w' := by
  obtain ⟨A, c, R, d, h1⟩ := h
  exact synced_any h1
end
/-- Two logs on a disk. -/
structure Pr (B gd ga gb : Nat) (L M : Lg) (D : Dk) (w : World) : Prop where
  logs : ∃ A c R d A' c' R' d', LogE w ga gd L A c R d ∧ LogE w gb gd M A' c' R' d' ∧ (∀ k, lblk ga A R k → B ≤ k) ∧ (∀ k, lblk gb A' R' k → B ≤ k) ∧ ∀ k, lblk ga A R k → ¬ lblk gb A' R' k
  disk : DiskB w B gd D
  env : EnvB B w
  a : GoodL L
  b : GoodL M
  gd : GoodD D
section
variable {B gd ga gb : Nat} {L M : Lg} {D : Dk} {w : World}
theorem Pr.le (h : Pr B gd ga gb L M D w) : B ≤ w.heap.size := h.env.le
theorem Pr.swap (h : Pr B gd ga gb L M D w) : Pr B gd gb ga M L D w := by
  obtain ⟨A, c, R, d, A', c', R', d', h1, h2, h3, h4, h5⟩ := h.logs
  exact ⟨⟨A', c', R', d', A, c, R, d, h2, h1, h4, h3, fun k k1 k2 => h5 k k2 k1⟩, h.disk, h.env, h.b, h.a, h.gd⟩
theorem Pr.below {w' : World} (h : Pr B gd ga gb L M D w) (hb : Below w.heap.size w w') : Pr B gd ga gb L M D w' := by
  obtain ⟨A, c, R, d, A', c', R', d', h1, h2, h3, h4, h5⟩ := h.logs
  exact ⟨⟨A, c, R, d, A', c', R', d', h1.below hb, h2.below hb, h3, h4, h5⟩, h.disk.below hb, h.env.below hb, h.a, h.b, h.gd⟩
theorem Pr.st (h : Pr B gd ga gb L M D w) : St B gd ga L D w := by
  obtain ⟨A, c, R, d, A', c', R', d', h1, h2, h3, h4, h5⟩ := h.logs
  exact ⟨⟨A, c, R, d, h1, h3⟩, h.disk, h.env, h.a, h.gd⟩
theorem pr_turn {L2 : Lg} {D2 : Dk} {A c R d A' c' R' d'} {w' : World} (h : Pr B gd ga gb L M D w) (h1 : LogE w ga gd L A c R d) (h2 : LogE w gb gd M A' c' R' d') (h3 : ∀ k, lblk ga A R k → B ≤ k) (h4 : ∀ k, lblk gb A' R' k → B ≤ k) (h5 : ∀ k, lblk ga A R k → ¬ lblk gb A' R' k)
    (ht : LTurn B ga gd A R L2 D2 w w') (G : GoodL L2) (GD : GoodD D2) : Pr B gd ga gb L2 M D2 w' := by
  obtain ⟨A2, c2, R2, d2, k1, k2⟩ := ht.log
  refine ⟨⟨A2, c2, R2, d2, A', c', R', d', k1, h2.wt ht.wt fun j hj hq => h5 j hq hj, lb_of h3 h.le k2, h4, fun k q1 q2 => ?_⟩, ht.disk, h.env.step ht.below, G, h.b, GD⟩
  rcases k2 k q1 with q | q
  · exact h5 k q q2
  · have := h2.inside q2
    omega
theorem pr_append (h : Pr B gd ga gb L M D w) (hp : 1 ≤ L.per ∧ L.per ≤ 64) (hn : nextN L ≤ 1125899906842624) (hr : L.recs.length ≤ 1000000000) (hF : D.F.length ≤ 998) (s : Bs) (hs : s.length ≤ 100000) (G : GoodL (apL L D s)) (GD : GoodD (apD L D s)) :
    Calls Tryz.prog 11 #[.pointer (some ⟨ga, 0, none⟩), sV s] w fun e w' => e = .returned (.tuple #[.int .i64 (apN L D s), .int .i64 (apE L D s)]) ∧ Pr B gd ga gb (apL L D s) M (apD L D s) w' ∧ Below B w w' := by
  obtain ⟨A, c, R, d, A', c', R', d', h1, h2, h3, h4, h5⟩ := h.logs
  exact (append_log h.a hp hn hr h.gd hF h.env h1 h.disk h3 s hs).mono fun e w' ⟨q1, q2⟩ => ⟨q1, pr_turn h h1 h2 h3 h4 h5 q2 G GD, q2.below⟩
theorem pr_drop (h : Pr B gd ga gb L M D w) (hn : nextN L ≤ 1125899906842624) (hF : D.F.length ≤ 998) (m : Int) (G : GoodL (drV L D m).2.1) (GD : GoodD (drV L D m).2.2) :
    Calls Tryz.prog 13 #[.pointer (some ⟨ga, 0, none⟩), .int .i64 m] w fun e w' => e = .returned (.int .i64 (drV L D m).1) ∧ Pr B gd ga gb (drV L D m).2.1 M (drV L D m).2.2 w' ∧ Below B w w' := by
  obtain ⟨A, c, R, d, A', c', R', d', h1, h2, h3, h4, h5⟩ := h.logs
  exact (drop_log h.a hn h.gd hF h.env h1 h.disk h3 m).mono fun e w' ⟨q1, q2⟩ => ⟨q1, pr_turn h h1 h2 h3 h4 h5 q2 G GD, q2.below⟩
theorem pr_sync (h : Pr B gd ga gb L M D w) (hn : nextN L ≤ 1125899906842624) (hF : D.F.length ≤ 998) :
    Calls Tryz.prog 12 #[.pointer (some ⟨ga, 0, none⟩)] w fun e w' => e = .returned (.int .i64 (syE L D)) ∧ Pr B gd ga gb (syL L D) M (syD L D) w' ∧ Below B w w' := by
  obtain ⟨A, c, R, d, A', c', R', d', h1, h2, h3, h4, h5⟩ := h.logs
  exact (sync_log h.a hn h.gd (by omega) h.env h1 h.disk (h3 ga (.inl rfl))).mono fun e w' ⟨q1, q2, q3, q4, q5⟩ =>
    ⟨q1, ⟨⟨A, c, R, d, A', c', R', d', q2, h2.wt q4 (fun j hj hq => h5 j (by rw [hq]; exact .inl rfl) hj), h3, h4, h5⟩, q3, h.env.step q5, good_sy h.a D, h.b, (good_syD h.gd L).1⟩, q5⟩
/-- A second log is opened. -/
theorem pr_open (h : St B gd ga L D w) (hF : D.F.length ≤ 998) (nm : Bs) (hnm : nm.length ≤ 100000) (per : Int) {X : Int × Lg × Dk} (hX : opnV D nm per (srtI (numsU nm D.F)) = X) (hok : X.1 = 0) (G : GoodL X.2.1) (GD2 : GoodD X.2.2) :
    Calls Tryz.prog 9 #[.pointer (some ⟨gd, 0, none⟩), sV nm, .int .i64 per] w fun e w' => ∃ g2, e = .returned (.tuple #[.pointer (some ⟨g2, 0, none⟩), .int .i64 0]) ∧ Pr B gd ga g2 L X.2.1 X.2.2 w' ∧ Below B w w' := by
  obtain ⟨A, c, R, d, k1, k2⟩ := h.log
  refine (open_log h.gd hF h.env h.disk nm hnm per).mono fun e w' hp => ?_
  rw [hX] at hp
  obtain ⟨g2, h1, h2, h3⟩ := hp
  rw [hok, if_pos rfl] at h1
  obtain ⟨A', c', R', d', j1, j2⟩ := h2 hok
  exact ⟨g2, h1, ⟨⟨A, c, R, d, A', c', R', d', k1.wt h3.wt fun _ _ f => f, j1, k2, fun k hk => Nat.le_trans h.le (j2 k hk), fun k q1 q2 => by
    have := k1.inside q1
    have := j2 k q2
    omega⟩, h3.disk, h.env.step h3.below, h.good, G, GD2⟩, h3.below⟩
end
end Go.Proofs.YtfpmcomigolacaaGreatDoor.wal
