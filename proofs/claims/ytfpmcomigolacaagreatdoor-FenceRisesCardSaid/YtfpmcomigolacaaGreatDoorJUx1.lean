/-
  A log and its files: what each file holds, what of it lasts; Sync keeps it.
  A log and its files: Append and Drop keep what holds of them.
-/
import Derived.Test.YtfpmcomigolacaaGreatDoorJUw26
set_option linter.unusedSimpArgs false
set_option linter.unusedVariables false
namespace Go.Proofs.YtfpmcomigolacaaGreatDoor.wal
open Go.Proofs.YtfpmcomigolacaaGreatDoor.enc Go.Proofs.YtfpmcomigolacaaGreatDoor.code Go.Proofs.YtfpmcomigolacaaGreatDoor.crcm Go.Proofs.YtfpmcomigolacaaGreatDoor.words Go.Proofs.YtfpmcomigolacaaGreatDoor.disk

/-! ### Files behind what is done to a disk -/
theorem stp_lk (D : Dk) (m : Bs) : lk (stpV D).F m = lk D.F m := by rw [stpV_F]
theorem on_lk (D : Dk) (n m : Bs) : lk (onV D n).F m = lk D.F m := by
  unfold onV
  split
  · exact stp_lk D m
  · rfl
theorem app_lk {D : Dk} (G : GoodD D) (n s m : Bs) : lk (appV D n s).F m = if appE D n s = 0 ∧ m = n then some ⟨n, oldB D.F n ++ s, oldL D.F n⟩ else lk D.F m := by
  unfold appV
  by_cases h : appE D n s = 0
  · rw [if_pos h]
    show lk (put _ D.F) m = _
    rw [lk_put G.srt]
    by_cases e : m = n
    · rw [if_pos e, if_pos ⟨h, e⟩]
    · rw [if_neg e, if_neg (fun x => e x.2)]
  · rw [if_neg h, if_neg (show ¬ (appE D n s = 0 ∧ m = n) from fun x => h x.1)]
    split
    · exact stp_lk D m
    · rfl
theorem syn_lk {D : Dk} (G : GoodD D) (n m : Bs) : lk (synV D n).F m = if onE D n = 0 ∧ m = n then some ⟨n, oldB D.F n, (oldB D.F n).length⟩ else lk D.F m := by
  unfold synV
  by_cases h : onE D n = 0
  · rw [if_pos h]
    show lk (put _ D.F) m = _
    rw [lk_put G.srt]
    by_cases e : m = n
    · rw [if_pos e, if_pos ⟨h, e⟩]
    · rw [if_neg e, if_neg (fun x => e x.2)]
  · rw [if_neg h, if_neg (fun x => h x.1)]
    exact on_lk D n m
theorem rem_lk {D : Dk} (G : GoodD D) (n m : Bs) : lk (remV D n).F m = if onE D n = 0 ∧ m = n then none else lk D.F m := by
  unfold remV
  by_cases h : onE D n = 0
  · rw [if_pos h]
    show lk (del _ D.F) m = _
    rw [lk_del G.srt]
    by_cases e : m = n
    · rw [if_pos e, if_pos ⟨h, e⟩]
    · rw [if_neg e, if_neg (fun x => e x.2)]
  · rw [if_neg h, if_neg (fun x => h x.1)]
    exact on_lk D n m
theorem old_of {F : List Fl} {n : Bs} {f : Fl} (h : lk F n = some f) : oldB F n = f.b ∧ oldL F n = f.l ∧ f.n = n := by
  unfold oldB oldL
  rw [h]
  exact ⟨rfl, rfl, (lk_some h).2⟩
def full (f : Fl) : Fl := ⟨f.n, f.b, f.b.length⟩
theorem sl_lk {L : Lg} {D : Dk} (G : GoodD D) (m : Bs) : lk (slD L D).F m = if slE L D = 0 ∧ L.heads ≠ [] ∧ m = lastF L then (lk D.F m).map full else lk D.F m := by
  unfold slE slD
  by_cases ho : D.off = true
  · rw [if_pos ho, if_pos ho, if_neg (by rintro ⟨h, -⟩; cases h)]
  rw [if_neg ho, if_neg ho]
  by_cases hh : L.heads = []
  · rw [if_pos hh, if_pos hh, if_neg (by rintro ⟨-, h, -⟩; exact h hh)]
  rw [if_neg hh, if_neg hh]
  by_cases hr : readE D (lastF L) ≠ 0
  · rw [if_pos hr, if_pos hr, if_neg (by rintro ⟨h, -⟩; exact hr h)]
  rw [if_neg hr, if_neg hr]
  have hk : lk D.F (lastF L) ≠ none := by
    intro e
    refine hr ?_
    unfold readE
    rw [if_neg ho, if_pos e]
    decide
  obtain ⟨f, hf⟩ : ∃ f, lk D.F (lastF L) = some f := by
    cases e : lk D.F (lastF L) with
    | none => exact absurd e hk
    | some f => exact ⟨f, rfl⟩
  obtain ⟨o1, o2, o3⟩ := old_of hf
  have hv : readV D (lastF L) = f.b := by
    unfold readV
    rw [if_neg ho, o1]
  rw [hv, o2]
  by_cases hl : f.l = f.b.length
  · rw [if_pos hl, if_pos hl]
    by_cases e : m = lastF L
    · rw [if_pos ⟨rfl, hh, e⟩, e, hf]
      show some f = some (full f)
      unfold full
      rw [← hl]
    · rw [if_neg (by rintro ⟨-, -, h⟩; exact e h)]
  · rw [if_neg hl, if_neg hl, syn_lk G, o1]
    by_cases h : onE D (lastF L) = 0 ∧ m = lastF L
    · rw [if_pos h, if_pos ⟨h.1, hh, h.2⟩, h.2, hf]
      show _ = some (full f)
      unfold full
      rw [o3]
    · rw [if_neg h, if_neg (by rintro ⟨h1, -, h2⟩; exact h ⟨h1, h2⟩)]

/-! ### The files of a log -/
structure Fi where
  h : Int
  g : List Bs
  tl : Bs
def fiB (f : Fi) : Bs := fileB (enc f.h.toNat :: f.g) f.tl
def recsOf (fs : List Fi) : List Bs := (fs.map Fi.g).flatten
def Chain : Int → List Fi → Prop
  | _, [] => True
  | b, f :: r => f.h = b ∧ Chain (b + f.g.length) r
def tornOf (fs : List Fi) : Bool := ((fs.getLast?).map fun f => decide (f.tl ≠ [])).getD false
theorem recs_cons (f : Fi) (fs : List Fi) : recsOf (f :: fs) = f.g ++ recsOf fs := by simp [recsOf]
theorem recs_snoc (fs : List Fi) (f : Fi) : recsOf (fs ++ [f]) = recsOf fs ++ f.g := by simp [recsOf]
theorem torn_snoc (fs : List Fi) (f : Fi) : tornOf (fs ++ [f]) = decide (f.tl ≠ []) := by simp [tornOf]
theorem chain_snoc : ∀ {fs : List Fi} {b : Int} {f : Fi}, Chain b (fs ++ [f]) ↔ Chain b fs ∧ f.h = b + (recsOf fs).length
  | [], b, f => by
    show f.h = b ∧ True ↔ True ∧ f.h = b + ((0 : Nat) : Int)
    simp
  | a :: r, b, f => by
    show a.h = b ∧ Chain (b + a.g.length) (r ++ [f]) ↔ (a.h = b ∧ Chain (b + a.g.length) r) ∧ _
    rw [chain_snoc (fs := r), recs_cons, List.length_append]
    constructor
    · rintro ⟨h1, h2, h3⟩
      exact ⟨⟨h1, h2⟩, by push_cast at h3 ⊢; omega⟩
    · rintro ⟨⟨h1, h2⟩, h3⟩
      exact ⟨h1, h2, by push_cast at h3 ⊢; omega⟩
/-- What lasts of the last file. -/
def Syn (L : Lg) (fs : List Fi) (f : Fi) (l : Nat) : Prop := (fileB (enc f.h.toNat :: f.g.take (L.syn - f.h).toNat) []).length ≤ l ∨ (L.syn ≤ f.h ∧ (1 < fs.length ∨ baseN L = 0))
/-- A log and its disk. -/
structure Inv (L : Lg) (D : Dk) (fs : List Fi) : Prop where
  heads : L.heads = fs.map Fi.h
  recs : L.recs = recsOf fs
  chain : Chain (baseN L) fs
  short : ∀ f ∈ fs, Short f.g ∧ Tail f.tl
  torn : L.torn = tornOf fs
  there : ∀ (j : Nat) (f : Fi), fs[j]? = some f → ∃ l, lk D.F (fn L.nm (L.least + (j : Int))) = some ⟨fn L.nm (L.least + (j : Int)), fiB f, l⟩ ∧ (j + 1 < fs.length → l = (fiB f).length) ∧ (j + 1 = fs.length → Syn L fs f l)
  only : ∀ k, 1 ≤ k → k ≤ 999 → (k < L.least ∨ nextF L ≤ k) → lk D.F (fn L.nm k) = none
  syn : L.syn ≤ nextN L
def Firm (L : Lg) (D : Dk) (fs : List Fi) : Prop := ∀ (j : Nat) (f : Fi), fs[j]? = some f → lk D.F (fn L.nm (L.least + (j : Int))) = some ⟨fn L.nm (L.least + (j : Int)), fiB f, (fiB f).length⟩
theorem file_len (T : List Bs) (tl : Bs) : (fileB T tl).length = (fileB T []).length + tl.length := by simp [fileB]
theorem file_app (T S : List Bs) (tl : Bs) : fileB (T ++ S) tl = fileB T [] ++ fileB S tl := by simp [fileB]
theorem file_pre (T : List Bs) (i : Nat) (tl : Bs) : (fileB (T.take i) []).length ≤ (fileB T tl).length := by
  have h : fileB T tl = fileB (T.take i) [] ++ fileB (T.drop i) tl := by rw [← file_app, List.take_append_drop]
  rw [h, List.length_append]
  omega
theorem fi_pre (f : Fi) (i : Nat) : (fileB (enc f.h.toNat :: f.g.take i) []).length ≤ (fiB f).length := by
  have := file_pre (enc f.h.toNat :: f.g) (i + 1) f.tl
  rwa [List.take_succ_cons] at this
theorem inv_len {L : Lg} {D : Dk} {fs : List Fi} (h : L.heads = fs.map Fi.h) : nextF L = L.least + (fs.length : Int) := by
  unfold nextF
  rw [h, List.length_map]
theorem inv_firm {L : Lg} {D : Dk} {fs : List Fi} (h1 : L.heads = fs.map Fi.h) (h2 : L.recs = recsOf fs) (h3 : Chain (baseN L) fs) (h4 : ∀ f ∈ fs, Short f.g ∧ Tail f.tl) (h5 : L.torn = tornOf fs) (h6 : Firm L D fs)
    (h7 : ∀ k, 1 ≤ k → k ≤ 999 → (k < L.least ∨ nextF L ≤ k) → lk D.F (fn L.nm k) = none) (h8 : L.syn ≤ nextN L) : Inv L D fs :=
  ⟨h1, h2, h3, h4, h5, fun j f hj => ⟨_, h6 j f hj, fun _ => rfl, fun _ => .inl (fi_pre f _)⟩, h7, h8⟩
/-- The disk may be another one, if the log's files are the same there. -/
theorem Inv.disk {L : Lg} {D D' : Dk} {fs : List Fi} (h : Inv L D fs) (G : GoodL L) (hl : ∀ k, 1 ≤ k → k ≤ 999 → lk D'.F (fn L.nm k) = lk D.F (fn L.nm k)) : Inv L D' fs := by
  have hn := inv_len (D := D) h.heads
  have h1 := G.lo
  have h2 := G.hi
  refine ⟨h.heads, h.recs, h.chain, h.short, h.torn, fun j f hj => ?_, fun k k0 k1 hk => ?_, h.syn⟩
  · have hlt := (List.getElem?_eq_some_iff.1 hj).1
    rw [hl _ (by omega) (by omega)]
    exact h.there j f hj
  · rw [hl k k0 k1]
    exact h.only k k0 k1 hk
theorem Firm.disk {L : Lg} {D D' : Dk} {fs : List Fi} (h : Firm L D fs) (hh : L.heads = fs.map Fi.h) (G : GoodL L) (hl : ∀ k, 1 ≤ k → k ≤ 999 → lk D'.F (fn L.nm k) = lk D.F (fn L.nm k)) : Firm L D' fs := by
  have hn := inv_len (D := D) hh
  have h1 := G.lo
  have h2 := G.hi
  intro j f hj
  have hlt := (List.getElem?_eq_some_iff.1 hj).1
  rw [hl _ (by omega) (by omega)]
  exact h j f hj
/-- The log may have failed. -/
theorem Inv.as {L M : Lg} {D : Dk} {fs : List Fi} (h : Inv L D fs) (h1 : M.nm = L.nm) (h2 : M.least = L.least) (h3 : M.heads = L.heads) (h4 : M.recs = L.recs) (h5 : M.torn = L.torn) (h6 : M.syn = L.syn) : Inv M D fs := by
  have hb : baseN M = baseN L := by unfold baseN; rw [h3]
  have hn : nextN M = nextN L := by unfold nextN; rw [hb, h4]
  have hf : nextF M = nextF L := by unfold nextF; rw [h2, h3]
  refine ⟨h3.trans h.heads, h4.trans h.recs, hb ▸ h.chain, h.short, h5.trans h.torn, fun j f hj => ?_, fun k k0 k1 hk => ?_, by rw [h6, hn]; exact h.syn⟩
  · obtain ⟨l, q1, q2, q3⟩ := h.there j f hj
    rw [h1, h2]
    refine ⟨l, q1, q2, fun e => ?_⟩
    have := q3 e
    unfold Syn at this ⊢
    rw [h6, hb]
    exact this
  · rw [h1]
    rw [h2, hf] at hk
    exact h.only k k0 k1 hk
theorem Inv.note {L : Lg} {D : Dk} {fs : List Fi} (h : Inv L D fs) (e : Int) : Inv (noteL L e) D fs := by
  obtain ⟨q1, q2, q3, q4, q5, q6, q7⟩ := note_fields L e
  exact h.as q1 q3 q4 q5 q6 q7
theorem sy_zero {L : Lg} {D : Dk} (h : syE L D = 0) : L.fail = false ∧ slE L D = 0 ∧ syL L D = { L with syn := nextN L } ∧ syD L D = slD L D := by
  unfold syE at h
  split at h
  · cases h
  rename_i hf
  refine ⟨by simpa using hf, h, ?_, ?_⟩
  · unfold syL
    rw [if_neg hf, if_neg (by rw [h]; simp)]
  · unfold syD
    rw [if_neg hf]
/-- Sync. -/
theorem Inv.sync {L : Lg} {D : Dk} {fs : List Fi} (h : Inv L D fs) (G : GoodL L) (GD : GoodD D) : Inv (syL L D) (syD L D) fs ∧ (syE L D = 0 → Firm (syL L D) (syD L D) fs ∧ (syL L D).syn = nextN L) := by
  have hn := inv_len (D := D) h.heads
  have g1 := G.lo
  have g2 := G.hi
  by_cases hz : syE L D = 0
  · obtain ⟨z1, z2, z3, z4⟩ := sy_zero hz
    have hlast : ∀ k, 1 ≤ k → k ≤ 999 → fn L.nm k = lastF L → L.heads ≠ [] → k = nextF L - 1 := fun k k0 k1 e hh => by
      have : 0 < L.heads.length := List.length_pos_iff.2 hh
      have hx : nextF L = L.least + L.heads.length := rfl
      exact fn_inj (by omega) (by omega) (by omega) (by omega) e
    have F : Firm { L with syn := nextN L } (slD L D) fs := by
      intro j f hj
      have hlt := (List.getElem?_eq_some_iff.1 hj).1
      have hne : L.heads ≠ [] := by
        rw [h.heads]
        intro e
        rw [show fs = [] from by simpa using e] at hlt
        exact absurd hlt (Nat.not_lt_zero _)
      obtain ⟨l, q1, q2, q3⟩ := h.there j f hj
      show lk (slD L D).F (fn L.nm (L.least + (j : Int))) = _
      rw [sl_lk GD]
      by_cases e : j + 1 = fs.length
      · have e2 : fn L.nm (L.least + (j : Int)) = lastF L := by
          unfold lastF
          congr 1
          omega
        rw [if_pos ⟨z2, hne, e2⟩, q1]
        rfl
      · rw [if_neg (by
          rintro ⟨-, h1, h2⟩
          have := hlast _ (by omega) (by omega) h2 h1
          omega), q1, q2 (by omega)]
    have I : Inv { L with syn := nextN L } (slD L D) fs := by
      refine inv_firm h.heads h.recs h.chain h.short h.torn F (fun k k0 k1 hk => ?_) (Int.le_refl _)
      show lk (slD L D).F (fn L.nm k) = none
      rw [sl_lk GD]
      have := h.only k k0 k1 hk
      split
      · rw [this]; rfl
      · exact this
    rw [z3, z4]
    exact ⟨I, fun _ => ⟨F, rfl⟩⟩
  · refine ⟨?_, fun e => absurd e hz⟩
    unfold syE at hz
    unfold syL syD
    split at hz
    · rename_i hf
      rw [if_pos hf, if_pos hf]
      exact h
    · rename_i hf
      rw [if_neg hf, if_neg hf, if_pos hz]
      refine (h.disk G fun k k0 k1 => ?_).note _
      rw [sl_lk GD, if_neg (by rintro ⟨e, -⟩; exact hz e)]
end Go.Proofs.YtfpmcomigolacaaGreatDoor.wal
set_option linter.unusedSimpArgs false
set_option linter.unusedVariables false
namespace Go.Proofs.YtfpmcomigolacaaGreatDoor.wal
open Go.Proofs.YtfpmcomigolacaaGreatDoor.enc Go.Proofs.YtfpmcomigolacaaGreatDoor.code Go.Proofs.YtfpmcomigolacaaGreatDoor.crcm Go.Proofs.YtfpmcomigolacaaGreatDoor.words Go.Proofs.YtfpmcomigolacaaGreatDoor.disk

theorem unf_sl (b : Bool) (t : Bs) : decide (t ≠ []) = false ↔ t = [] := by simp
theorem frame_tail_nil : Tail [] := tail_nil
/-- The files with one more at the end; the last one with a record more. -/
def moreF (fs : List Fi) (h : Int) (s : Bs) : List Fi := fs ++ [⟨h, [s], []⟩]
def addF (fs : List Fi) (s : Bs) : List Fi := match fs.getLast? with
  | none => fs
  | some f => fs.dropLast ++ [⟨f.h, f.g ++ [s], f.tl⟩]
theorem snoc_of {α} {l : List α} (h : l ≠ []) : ∃ i x, l = i ++ [x] := ⟨l.dropLast, l.getLast h, (List.dropLast_concat_getLast h).symm⟩
theorem Inv.nonempty {L : Lg} {D : Dk} {fs : List Fi} (h : Inv L D fs) : L.heads = [] ↔ fs = [] := by
  rw [h.heads]
  simp
theorem Inv.nxt {L : Lg} {D : Dk} {fs : List Fi} (h : Inv L D fs) : nextN L = baseN L + ((recsOf fs).length : Int) := by
  unfold nextN
  rw [h.recs]
theorem get_snoc_lt {α} {l : List α} {x y : α} {j : Nat} (h : (l ++ [x])[j]? = some y) (hj : j ≠ l.length) : l[j]? = some y := by
  have hlt := (List.getElem?_eq_some_iff.1 h).1
  rw [List.length_append] at hlt
  simp at hlt
  rwa [List.getElem?_append_left (by omega)] at h
theorem get_snoc_eq {α} {l : List α} {x y : α} {j : Nat} (h : (l ++ [x])[j]? = some y) (hj : j = l.length) : y = x := by
  subst hj
  rw [List.getElem?_append_right (Nat.le_refl _)] at h
  simp at h
  exact h.symm
/-- A file begins. -/
theorem Inv.begun {L : Lg} {D : Dk} {fs : List Fi} (h : Inv L D fs) (hF : Firm L D fs) (hs : L.syn = nextN L) (G : GoodL L) (GD : GoodD D) (hb : Bare L) (hk : nextF L ≤ 999) {s : Bs} (hl : s.length ≤ 4096) (ha : appE D (fn L.nm (nextF L)) (newB L s) = 0)
    {M : Lg} (m1 : M.nm = L.nm) (m2 : M.least = L.least) (m3 : M.heads = L.heads ++ [nextN L]) (m4 : M.recs = L.recs ++ [s]) (m5 : M.torn = false) (m6 : M.syn = L.syn) :
    Inv M (appV D (fn L.nm (nextF L)) (newB L s)) (fs ++ [⟨nextN L, [s], []⟩]) ∧ baseN M = baseN L ∧ nextN M = nextN L + 1 := by
  have hn := inv_len (D := D) h.heads
  have g1 := G.lo
  have hbM : baseN M = baseN L := by
    unfold baseN
    rw [m3]
    cases e : L.heads with
    | nil =>
      have : L.recs = [] := hb e
      unfold nextN baseN
      rw [e, this]
      rfl
    | cons a r => rfl
  have hnM : nextN M = nextN L + 1 := by
    unfold nextN
    rw [hbM, m4, List.length_append]
    simp
    omega
  have hfM : nextF M = nextF L + 1 := by
    unfold nextF
    rw [m2, m3, List.length_append]
    simp
    omega
  have hnext := h.nxt
  have hold : oldB D.F (fn L.nm (nextF L)) = [] ∧ oldL D.F (fn L.nm (nextF L)) = 0 := by
    have := h.only (nextF L) (by omega) hk (.inr (Int.le_refl _))
    unfold oldB oldL
    rw [this]
    exact ⟨rfl, rfl⟩
  refine ⟨⟨?_, ?_, ?_, ?_, ?_, ?_, ?_, ?_⟩, hbM, hnM⟩
  · rw [m3, h.heads]
    simp
  · rw [m4, h.recs, recs_snoc]
  · rw [hbM]
    exact chain_snoc.2 ⟨h.chain, hnext⟩
  · intro f hf
    rcases List.mem_append.1 hf with hf | hf
    · exact h.short f hf
    · rw [List.mem_singleton] at hf
      subst hf
      exact ⟨fun x hx => by rw [List.mem_singleton] at hx; rw [hx]; exact hl, tail_nil⟩
  · rw [m5, torn_snoc]
    simp
  · intro j f hj
    rw [m1, m2, app_lk GD]
    have hlt := (List.getElem?_eq_some_iff.1 hj).1
    rw [List.length_append] at hlt
    simp at hlt
    by_cases e : j = fs.length
    · obtain rfl := get_snoc_eq hj e
      have e2 : fn L.nm (L.least + (j : Int)) = fn L.nm (nextF L) := by rw [hn, e]
      rw [if_pos ⟨ha, e2⟩, hold.1, hold.2, e2]
      refine ⟨0, ?_, fun hh => ?_, fun _ => .inr ⟨by rw [m6, hs]; exact Int.le_refl _, ?_⟩⟩
      · show some (Fl.mk _ ([] ++ newB L s) 0) = some (Fl.mk _ _ 0)
        rw [List.nil_append]
        unfold newB fiB fileB
        simp
      · rw [List.length_append] at hh
        simp at hh
        omega
      · by_cases he : fs = []
        · right
          rw [hbM]
          unfold baseN
          rw [h.nonempty.2 he]
          rfl
        · left
          have : 0 < fs.length := List.length_pos_iff.2 he
          rw [List.length_append]
          simp
          omega
    · have hj2 := get_snoc_lt hj e
      have e2 : fn L.nm (L.least + (j : Int)) ≠ fn L.nm (nextF L) := fun x => by
        have := fn_inj (by omega) (by omega) (by omega) (by omega) x
        omega
      rw [if_neg (fun x => e2 x.2)]
      refine ⟨_, hF j f hj2, fun _ => rfl, fun hh => ?_⟩
      rw [List.length_append] at hh
      simp at hh
      omega
  · intro k k0 k1 hk'
    rw [m1, app_lk GD]
    rw [m2, hfM] at hk'
    have e2 : fn L.nm k ≠ fn L.nm (nextF L) := fun x => by
      have := fn_inj (by omega) (by omega) (by omega) (by omega) x
      omega
    rw [if_neg (fun x => e2 x.2)]
    exact h.only k k0 k1 (by omega)
  · rw [m6, hnM]
    have := h.syn
    omega
/-- A record more in the last file. -/
theorem Inv.added {L : Lg} {D : Dk} {fs : List Fi} {f0 : Fi} (h : Inv L D (fs ++ [f0])) (G : GoodL L) (GD : GoodD D) (ht : L.torn = false) {s : Bs} (hl : s.length ≤ 4096) (ha : appE D (lastF L) (frameL s) = 0) :
    Inv { L with recs := L.recs ++ [s] } (appV D (lastF L) (frameL s)) (fs ++ [⟨f0.h, f0.g ++ [s], []⟩]) := by
  have hn := inv_len (D := D) h.heads
  rw [List.length_append] at hn
  simp at hn
  have g1 := G.lo
  have g2 := G.hi
  have htl : f0.tl = [] := by
    have := h.torn
    rw [ht, torn_snoc] at this
    simpa using this.symm
  obtain ⟨c1, c2⟩ := chain_snoc.1 h.chain
  have hlast : lastF L = fn L.nm (L.least + (fs.length : Int)) := by
    unfold lastF
    congr 1
    omega
  have hsyn := h.syn
  rw [h.nxt, recs_snoc, List.length_append] at hsyn
  refine ⟨?_, ?_, ?_, ?_, ?_, ?_, ?_, ?_⟩
  · show L.heads = _
    rw [h.heads]
    simp
  · show L.recs ++ [s] = _
    rw [h.recs, recs_snoc, recs_snoc, List.append_assoc]
  · exact chain_snoc.2 ⟨c1, c2⟩
  · intro f hf
    rcases List.mem_append.1 hf with hf | hf
    · exact h.short f (List.mem_append_left _ hf)
    · rw [List.mem_singleton] at hf
      subst hf
      refine ⟨fun x hx => ?_, tail_nil⟩
      rcases List.mem_append.1 hx with hx | hx
      · exact (h.short f0 (by simp)).1 x hx
      · rw [List.mem_singleton] at hx
        rw [hx]
        exact hl
  · show L.torn = _
    rw [ht, torn_snoc]
    simp
  · intro j f hj
    show ∃ l, lk (appV D (lastF L) (frameL s)).F (fn L.nm (L.least + (j : Int))) = some ⟨fn L.nm (L.least + (j : Int)), fiB f, l⟩ ∧ _
    have hlt := (List.getElem?_eq_some_iff.1 hj).1
    rw [List.length_append] at hlt
    simp at hlt
    rw [app_lk GD]
    by_cases e : j = fs.length
    · obtain rfl := get_snoc_eq hj e
      have e2 : fn L.nm (L.least + (j : Int)) = lastF L := by rw [hlast, e]
      obtain ⟨l, q1, q2, q3⟩ := h.there fs.length f0 (by simp)
      rw [← hlast] at q1
      obtain ⟨o1, o2, -⟩ := old_of q1
      rw [if_pos ⟨ha, e2⟩, o1, o2, e2]
      refine ⟨l, ?_, fun hh => ?_, fun _ => ?_⟩
      · show some (Fl.mk (lastF L) (fiB f0 ++ frameL s) l) = some (Fl.mk _ _ l)
        unfold fiB
        rw [htl]
        show _ = some (Fl.mk _ (fileB (enc f0.h.toNat :: (f0.g ++ [s])) []) l)
        rw [← List.cons_append, file_snoc]
      · rw [List.length_append] at hh
        simp at hh
        omega
      · have := q3 (by simp)
        rcases this with h1 | ⟨h1, h2⟩
        · left
          show (fileB (enc f0.h.toNat :: (f0.g ++ [s]).take (L.syn - f0.h).toNat) []).length ≤ l
          rw [List.take_append_of_le_length (by omega)]
          exact h1
        · right
          refine ⟨h1, ?_⟩
          rw [List.length_append] at h2 ⊢
          exact h2
    · have hj2 := get_snoc_lt hj e
      have e2 : fn L.nm (L.least + (j : Int)) ≠ lastF L := fun x => by
        rw [hlast] at x
        have := fn_inj (by omega) (by omega) (by omega) (by omega) x
        omega
      obtain ⟨l, q1, q2, q3⟩ := h.there j f (by rw [List.getElem?_append_left (by omega)]; exact hj2)
      rw [if_neg (fun x => e2 x.2)]
      rw [List.length_append] at q2 ⊢
      refine ⟨l, q1, q2, fun hh => ?_⟩
      simp at hh
      omega
  · intro k k0 k1 hk'
    show lk (appV D (lastF L) (frameL s)).F (fn L.nm k) = none
    have hk2 : k < L.least ∨ nextF L ≤ k := hk'
    have e2 : fn L.nm k ≠ lastF L := fun x => by
      rw [hlast] at x
      have := fn_inj (by omega) (by omega) (by omega) (by omega) x
      omega
    rw [app_lk GD, if_neg (fun x => e2 x.2)]
    exact h.only k k0 k1 hk2
  · show L.syn ≤ nextN { L with recs := L.recs ++ [s] }
    have e1 : nextN { L with recs := L.recs ++ [s] } = nextN L + 1 := by
      show baseN L + ((L.recs ++ [s]).length : Int) = baseN L + L.recs.length + 1
      rw [List.length_append]
      simp
      omega
    have := h.syn
    omega
theorem sy_nm (L : Lg) (D : Dk) : lastF (syL L D) = lastF L := by
  obtain ⟨h1, h2, h3, h4, h5, h6⟩ := sy_fields L D
  unfold lastF nextF
  rw [h1, h3, h4]
theorem newB_nm (L : Lg) (D : Dk) (s : Bs) : newB (syL L D) s = newB L s := by
  unfold newB
  rw [(sy_next L D).1]
/-- Append. -/
theorem Inv.app {L : Lg} {D : Dk} {fs : List Fi} (h : Inv L D fs) (G : GoodL L) (GD : GoodD D) (hb : Bare L) (s : Bs) : ∃ gs, Inv (apL L D s) (apD L D s) gs := by
  unfold apL apD
  by_cases hf : L.fail = true
  · rw [if_pos hf, if_pos hf]
    exact ⟨fs, h⟩
  rw [if_neg hf, if_neg hf]
  by_cases hl : 4096 < s.length
  · rw [if_pos hl, if_pos hl]
    exact ⟨fs, h⟩
  rw [if_neg hl, if_neg hl]
  unfold wrE wrL wrD
  by_cases hc : closedB L = true
  · rw [if_pos hc, if_pos hc, if_pos hc]
    obtain ⟨i1, i2⟩ := h.sync G GD
    unfold bgE bgL bgD
    by_cases hk : 999 < nextF L
    · rw [if_pos hk, if_pos hk, if_pos hk, if_pos (by decide)]
      exact ⟨fs, h.note _⟩
    rw [if_neg hk, if_neg hk, if_neg hk]
    by_cases he : syE L D ≠ 0
    · rw [if_pos he, if_pos he, if_pos he, if_pos he]
      exact ⟨fs, i1.note _⟩
    rw [if_neg he, if_neg he, if_neg he]
    have he0 : syE L D = 0 := by simpa using he
    obtain ⟨j1, j2⟩ := i2 he0
    obtain ⟨s1, s2, s3, s4, s5, s6⟩ := sy_fields L D
    obtain ⟨t1, t2, t3⟩ := sy_next L D
    by_cases ha : appE (syD L D) (fn L.nm (nextF L)) (newB L s) ≠ 0
    · rw [if_pos ha, if_pos ha]
      refine ⟨fs, (i1.disk (good_sy G D) fun k k0 k1 => ?_).note _⟩
      rw [app_lk (good_syD GD L).1, if_neg (fun x => ha x.1)]
    · rw [if_neg ha, if_neg ha]
      have ha0 : appE (syD L D) (fn L.nm (nextF L)) (newB L s) = 0 := by simpa using ha
      have hx := i1.begun j1 (by rw [t1]; exact j2) (good_sy G D) (good_syD GD L).1 (bare_sy hb D) (by rw [t2]; omega) (s := s) (by omega)
        (by rw [s1, t2, newB_nm]; exact ha0) (M := { syL L D with heads := L.heads ++ [nextN L], torn := false, recs := L.recs ++ [s] }) rfl rfl (by rw [s4, t1]) (by rw [s5]) rfl rfl
      rw [s1, t2, newB_nm] at hx
      exact ⟨_, hx.1⟩
  · rw [if_neg hc, if_neg hc, if_neg hc]
    by_cases ha : appE D (lastF L) (frameL s) ≠ 0
    · rw [if_pos ha]
      refine ⟨fs, (h.disk G fun k k0 k1 => ?_).note _⟩
      rw [app_lk GD, if_neg (fun x => ha x.1)]
    · rw [if_neg ha]
      have ha0 : appE D (lastF L) (frameL s) = 0 := by simpa using ha
      have hcf : closedB L = false := by simpa using hc
      unfold closedB at hcf
      simp only [Bool.or_eq_false_iff, decide_eq_false_iff_not] at hcf
      obtain ⟨c1, c2, c3⟩ := hcf
      obtain ⟨i, x, hx⟩ := snoc_of (fun e => c1 (h.nonempty.2 e))
      subst hx
      exact ⟨_, h.added G GD c2 (by omega) ha0⟩

/-! ### Drop -/
theorem past_two {L : Lg} {D : Dk} {fs : List Fi} (h : Inv L D fs) {n : Int} (hp : pastB L n = true) : ∃ f0 f1 r, fs = f0 :: f1 :: r := by
  unfold pastB at hp
  rw [h.heads] at hp
  match fs, hp with
  | [], hp => cases hp
  | [_], hp => cases hp
  | f0 :: f1 :: r, _ => exact ⟨f0, f1, r, rfl⟩
theorem torn_cons (f0 f1 : Fi) (r : List Fi) : tornOf (f0 :: f1 :: r) = tornOf (f1 :: r) := by
  unfold tornOf
  rw [List.getLast?_cons_cons]
theorem Inv.dropped {L : Lg} {D : Dk} {f0 f1 : Fi} {r : List Fi} (h : Inv L D (f0 :: f1 :: r)) (hF : Firm L D (f0 :: f1 :: r)) (G : GoodL L) (GD : GoodD D) (he : dfE L D = 0) : Inv (dfV L) (dfD L D) (f1 :: r) ∧ Firm (dfV L) (dfD L D) (f1 :: r) := by
  have hn := inv_len (D := D) h.heads
  simp only [List.length_cons] at hn
  have g1 := G.lo
  have g2 := G.hi
  obtain ⟨c1, c2, c3⟩ := h.chain
  have e0 : h0 L = f0.h := by unfold h0; rw [h.heads]; rfl
  have e1 : h1 L = f1.h := by unfold h1; rw [h.heads]; rfl
  have hb : baseN L = f0.h := by unfold baseN; rw [h.heads]; rfl
  have hbd : baseN (dfV L) = f1.h := by unfold baseN dfV; rw [h.heads]; rfl
  have hrec : (dfV L).recs = recsOf (f1 :: r) := by
    show L.recs.drop (h1 L - h0 L).toNat = _
    have : (h1 L - h0 L).toNat = f0.g.length := by omega
    rw [this, h.recs, recs_cons, List.drop_left]
  have hnf : nextF (dfV L) = nextF L := by
    show L.least + 1 + (L.heads.tail.length : Int) = _
    rw [h.heads, hn]
    simp
    omega
  have hnN : nextN (dfV L) = nextN L := by
    have h1 := h.nxt
    show baseN (dfV L) + ((dfV L).recs.length : Int) = _
    rw [hrec, hbd, h1]
    simp only [recs_cons, List.length_append]
    push_cast
    omega
  have hlk : ∀ k, 1 ≤ k → k ≤ 999 → k ≠ L.least → lk (dfD L D).F (fn L.nm k) = lk D.F (fn L.nm k) := fun k k0 k1 hne => by
    unfold dfD
    rw [rem_lk GD, if_neg (fun x => hne (fn_inj (by omega) (by omega) (by omega) (by omega) x.2))]
  have F : Firm (dfV L) (dfD L D) (f1 :: r) := by
    intro j f hj
    have hlt := (List.getElem?_eq_some_iff.1 hj).1
    simp only [List.length_cons] at hlt
    show lk (dfD L D).F (fn L.nm (L.least + 1 + (j : Int))) = some ⟨fn L.nm (L.least + 1 + (j : Int)), _, _⟩
    rw [hlk _ (by omega) (by omega) (by omega)]
    have := hF (j + 1) f (by simpa using hj)
    rw [show L.least + 1 + (j : Int) = L.least + ((j + 1 : Nat) : Int) by push_cast; omega]
    exact this
  refine ⟨inv_firm ?_ hrec (by rw [hbd]; exact ⟨rfl, by rw [c2]; exact c3⟩) (fun f hf => h.short f (List.mem_cons_of_mem _ hf)) ?_ F (fun k k0 k1 hk => ?_) ?_, F⟩
  · show L.heads.tail = _
    rw [h.heads]
    rfl
  · show L.torn = _
    rw [h.torn, torn_cons]
  · show lk (dfD L D).F (fn L.nm k) = none
    have hk2 : k < L.least + 1 ∨ nextF (dfV L) ≤ k := hk
    rw [hnf] at hk2
    by_cases e : k = L.least
    · subst e
      unfold dfD
      rw [rem_lk GD, if_pos ⟨he, rfl⟩]
    · rw [hlk k k0 k1 e]
      exact h.only k k0 k1 (by omega)
  · rw [hnN]
    exact h.syn
theorem Inv.drs : ∀ (k : Nat) {L : Lg} {D : Dk} {fs : List Fi} {n : Int}, Inv L D fs → Firm L D fs → GoodL L → GoodD D → ∃ gs, Inv (drF k L D n).2.1 (drF k L D n).2.2 gs
  | 0, L, D, fs, n, h, hF, G, GD => ⟨fs, h⟩
  | k + 1, L, D, fs, n, h, hF, G, GD => by
    unfold drF
    by_cases hp : pastB L n = true
    · rw [if_pos hp]
      by_cases he : dfE L D ≠ 0
      · rw [if_pos he]
        refine ⟨fs, (h.disk G fun k k0 k1 => ?_).note _⟩
        unfold dfD
        rw [rem_lk GD, if_neg (fun x => he x.1)]
      · rw [if_neg he]
        obtain ⟨f0, f1, r, rfl⟩ := past_two h hp
        obtain ⟨d1, d2⟩ := h.dropped hF G GD (by simpa using he)
        exact Inv.drs k d1 d2 (good_df G hp).1 (good_rem GD _)
    · rw [if_neg hp]
      exact ⟨fs, h⟩
theorem Inv.drop {L : Lg} {D : Dk} {fs : List Fi} (h : Inv L D fs) (G : GoodL L) (GD : GoodD D) (n : Int) : ∃ gs, Inv (drV L D n).2.1 (drV L D n).2.2 gs := by
  obtain ⟨i1, i2⟩ := h.sync G GD
  unfold drV
  by_cases hf : L.fail = true
  · rw [if_pos hf]
    exact ⟨fs, h⟩
  rw [if_neg hf]
  by_cases hp : pastB L n = false
  · rw [if_pos hp]
    exact ⟨fs, h⟩
  rw [if_neg hp]
  by_cases he : syE L D ≠ 0
  · rw [if_pos he]
    exact ⟨fs, i1⟩
  · rw [if_neg he]
    exact i1.drs _ (i2 (by simpa using he)).1 (good_sy G D) (good_syD GD L).1
end Go.Proofs.YtfpmcomigolacaaGreatDoor.wal
