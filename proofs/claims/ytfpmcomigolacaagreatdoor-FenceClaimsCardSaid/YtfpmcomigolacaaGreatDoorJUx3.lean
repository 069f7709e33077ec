/-
  A log is opened anew: it has a beginning of its records, with all that lasted.
  A log is opened anew, from end to end.
-/
import Derived.Test.YtfpmcomigolacaaGreatDoorJUx1
set_option linter.unusedSimpArgs false
set_option linter.unusedVariables false
namespace Go.Proofs.YtfpmcomigolacaaGreatDoor.wal
open Go.Proofs.YtfpmcomigolacaaGreatDoor.enc Go.Proofs.YtfpmcomigolacaaGreatDoor.code Go.Proofs.YtfpmcomigolacaaGreatDoor.crcm Go.Proofs.YtfpmcomigolacaaGreatDoor.words Go.Proofs.YtfpmcomigolacaaGreatDoor.disk

theorem chain_ge : ∀ {fs : List Fi} {b : Int} {f : Fi}, Chain b fs → f ∈ fs → b ≤ f.h
  | a :: r, b, f, ⟨h1, h2⟩, hf => by
    rcases List.mem_cons.1 hf with rfl | hf
    · omega
    · have := chain_ge h2 hf
      omega
theorem chain_le : ∀ {fs : List Fi} {b : Int} {f : Fi}, Chain b fs → f ∈ fs → f.h + f.g.length ≤ b + (recsOf fs).length
  | a :: r, b, f, ⟨h1, h2⟩, hf => by
    rw [recs_cons, List.length_append]
    rcases List.mem_cons.1 hf with rfl | hf
    · push_cast
      omega
    · have := chain_le h2 hf
      push_cast
      omega
theorem chain_left : ∀ {fs gs : List Fi} {b : Int}, Chain b (fs ++ gs) → Chain b fs
  | [], _, _, _ => trivial
  | a :: r, gs, b, ⟨h1, h2⟩ => ⟨h1, chain_left (gs := gs) h2⟩
/-- The log that has these files. -/
def lgOf (nm : Bs) (per least : Int) (fs : List Fi) : Lg := ⟨nm, per, if fs = [] then 1 else least, fs.map Fi.h, recsOf fs, tornOf fs, 0, false⟩
theorem lgOf_nil (nm : Bs) (per least : Int) : lgOf nm per least [] = lg0 nm per := rfl
theorem lgOf_base {nm : Bs} {per least b : Int} {fs : List Fi} (h : Chain b fs) (hne : fs ≠ []) : baseN (lgOf nm per least fs) = b := by
  match fs, hne with
  | a :: r, _ => exact h.1
theorem lgOf_least {nm : Bs} {per least : Int} {fs : List Fi} (hne : fs ≠ []) : (lgOf nm per least fs).least = least := if_neg hne
theorem lgOf_next {nm : Bs} {per least b : Int} {fs : List Fi} (h : Chain b fs) (hne : fs ≠ []) : nextN (lgOf nm per least fs) = b + (recsOf fs).length := by
  unfold nextN
  rw [lgOf_base h hne]
  rfl
theorem lgOf_nextF {nm : Bs} {per least : Int} {fs : List Fi} (hne : fs ≠ []) : nextF (lgOf nm per least fs) = least + (fs.length : Int) := by
  unfold nextF
  rw [lgOf_least hne]
  show least + ((fs.map Fi.h).length : Int) = _
  rw [List.length_map]
theorem file_flat (T : List Bs) : (T.map frameL).flatten = fileB T [] := by simp [fileB]
theorem short_cons {h : Nat} {g : List Bs} (hs : Short g) : Short (enc h :: g) := fun s hx => by
  rcases List.mem_cons.1 hx with rfl | hx
  · have := len_enc h
    omega
  · exact hs s hx
theorem fi_frs {f : Fi} (h1 : Short f.g) (h2 : Tail f.tl) : frsV (fiB f) = (enc f.h.toNat :: f.g, (fileB (enc f.h.toNat :: f.g) []).length) := by
  have := file_frs (short_cons (h := f.h.toNat) h1) h2
  rwa [file_flat] at this
theorem rInt_head {h : Int} (h0 : 0 ≤ h) (h1 : h ≤ 1099511627776) : rInt (enc h.toNat) 0 1099511627776 = (h, (enc h.toNat).length, 0) := by
  have := dec_enc (v := h.toNat) (by omega) []
  rw [List.append_nil] at this
  unfold rInt rNum
  rw [if_pos rfl, this]
  dsimp only
  rw [if_pos rfl, if_neg (by omega), Int.toNat_of_nonneg h0]
theorem take_fi {nm : Bs} {per least b k : Int} {fs : List Fi} {f : Fi} {D : Dk} (hk : k = least + (fs.length : Int)) (hc : Chain b (fs ++ [f])) (b0 : 0 ≤ b) (b1 : b + (recsOf fs).length ≤ 1099511627776) (h1 : Short f.g) (h2 : Tail f.tl) (hr : readV D (fn nm k) = fiB f) :
    takeB (lgOf nm per least fs) D k = true ∧ takeV (lgOf nm per least fs) D k = lgOf nm per least (fs ++ [f]) := by
  obtain ⟨c1, c2⟩ := chain_snoc.1 hc
  have ht : textsV (lgOf nm per least fs) D k = enc f.h.toNat :: f.g := by
    show (frsV (readV D (fn nm k))).1 = _
    rw [hr, fi_frs h1 h2]
  have htr : decide ((frsV (readV D (fn (lgOf nm per least fs).nm k))).2 < (readV D (fn (lgOf nm per least fs).nm k)).length) = decide (f.tl ≠ []) := by
    show decide ((frsV (readV D (fn nm k))).2 < (readV D (fn nm k)).length) = _
    rw [hr, fi_frs h1 h2, decide_eq_decide]
    show _ < (fileB _ f.tl).length ↔ _
    rw [file_len _ f.tl]
    constructor
    · intro h e
      rw [e] at h
      simp at h
    · intro h
      have := List.length_pos_iff.2 h
      omega
  by_cases hz : fs = []
  · subst hz
    have hf : f.h = b := by simpa [recsOf] using c2
    have hi := rInt_head (h := f.h) (by omega) (by simp [recsOf] at b1; omega)
    have hnil : (lgOf nm per least []).heads = [] := rfl
    have hhd : headV (lgOf nm per least []) (enc f.h.toNat) = f.h := by
      unfold headV
      rw [if_pos hnil, hi]
    have hk2 : k = least := by simpa using hk
    constructor
    · unfold takeB
      rw [if_neg (by rintro ⟨h, -⟩; exact h rfl), ht]
      show headB _ _ = true
      unfold headB
      rw [if_pos hnil, hi]
      dsimp only
      rw [List.drop_length]
      rfl
    · unfold takeV
      rw [ht, htr, if_pos hnil]
      show Lg.mk nm per k ([] ++ [headV _ (enc f.h.toNat)]) ([] ++ f.g) _ 0 false = Lg.mk nm per (if [f] = [] then 1 else least) [f.h] (recsOf [f]) (tornOf [f]) 0 false
      rw [hhd, if_neg (by simp), hk2]
      have e1 : recsOf [f] = f.g := by simp [recsOf]
      have e2 : tornOf [f] = decide (f.tl ≠ []) := by simp [tornOf]
      rw [e1, e2]
      rfl
  · have hn := lgOf_next (nm := nm) (per := per) (least := least) c1 hz
    have hne : (lgOf nm per least fs).heads ≠ [] := by
      show fs.map Fi.h ≠ []
      simpa using hz
    have hhd : headV (lgOf nm per least fs) (enc f.h.toNat) = f.h := by
      unfold headV
      rw [if_neg hne, hn, c2]
    constructor
    · unfold takeB
      rw [if_neg (by rintro ⟨-, h⟩; exact h (by rw [lgOf_nextF hz]; exact hk)), ht]
      show headB _ _ = true
      unfold headB
      rw [if_neg hne, hn, ← c2]
      simp
    · unfold takeV
      rw [ht, htr, if_neg hne, lgOf_least hz]
      show Lg.mk nm per least (fs.map Fi.h ++ [headV _ (enc f.h.toNat)]) (recsOf fs ++ f.g) _ 0 false = Lg.mk nm per (if fs ++ [f] = [] then 1 else least) ((fs ++ [f]).map Fi.h) (recsOf (fs ++ [f])) (tornOf (fs ++ [f])) 0 false
      rw [hhd, if_neg (by simp), recs_snoc, torn_snoc, List.map_append]
      rfl
theorem takes_fs {nm : Bs} {per least b : Int} {D : Dk} (rest : List Int) (b0 : 0 ≤ b) : ∀ (gs fs : List Fi), Chain b (fs ++ gs) → b + (recsOf (fs ++ gs)).length ≤ 1099511627776 → (∀ f ∈ gs, Short f.g ∧ Tail f.tl) →
    (∀ (j : Nat) (f : Fi), gs[j]? = some f → readV D (fn nm (least + (fs.length : Int) + (j : Int))) = fiB f) → takesV D (lgOf nm per least fs) (rowI (least + (fs.length : Int)) gs.length ++ rest) = takesV D (lgOf nm per least (fs ++ gs)) rest
  | [], fs, _, _, _, _ => by rw [List.append_nil]; rfl
  | f :: r, fs, hc, hb, hs, hr => by
    have hc2 : Chain b ((fs ++ [f]) ++ r) := by rw [List.append_assoc]; exact hc
    have hrl : b + (recsOf fs).length ≤ 1099511627776 := by
      have : (recsOf (fs ++ f :: r)).length = (recsOf fs).length + (recsOf (f :: r)).length := by simp [recsOf]
      omega
    obtain ⟨t1, t2⟩ := take_fi (nm := nm) (per := per) (least := least) (k := least + (fs.length : Int)) (D := D) rfl (chain_left hc2) b0 hrl (hs f (by simp)).1 (hs f (by simp)).2 (by
      have := hr 0 f rfl
      simpa using this)
    rw [List.length_cons, rowI_cons, List.cons_append]
    show (if takeB _ D _ = true then takesV D (takeV _ D _) _ else _) = _
    rw [if_pos t1, t2]
    have ih := takes_fs (nm := nm) (per := per) (least := least) (b := b) (D := D) rest b0 r (fs ++ [f]) hc2 (by rw [List.append_assoc]; exact hb) (fun x hx => hs x (List.mem_cons_of_mem _ hx)) (fun j x hj => by
      have := hr (j + 1) x (by simpa using hj)
      rw [List.length_append, List.length_singleton]
      rw [show least + ((fs.length + 1 : Nat) : Int) + (j : Int) = least + (fs.length : Int) + ((j + 1 : Nat) : Int) by push_cast; omega]
      exact this)
    rw [List.length_append, List.length_singleton] at ih
    rw [show least + (fs.length : Int) + 1 = least + ((fs.length + 1 : Nat) : Int) by push_cast; omega, ih, List.append_assoc]
    rfl
/-- What is left of the files of a log behind a failing of the power; or all of them. -/
structure Cut (nm : Bs) (D D' : Dk) : Prop where
  off : D'.off = false
  left : D'.left = -1
  lks : ∀ k, 1 ≤ k → k ≤ 999 → (lk D.F (fn nm k) = none → lk D'.F (fn nm k) = none) ∧ ∀ f, lk D.F (fn nm k) = some f → (lk D'.F (fn nm k) = none ∧ f.l = 0) ∨ ∃ n l', f.l ≤ n ∧ n ≤ f.b.length ∧ f.l ≤ l' ∧ l' ≤ n ∧ lk D'.F (fn nm k) = some ⟨fn nm k, f.b.take n, l'⟩
theorem cut_same {nm : Bs} {D : Dk} (Q : Quiet D) (G : GoodD D) : Cut nm D D :=
  ⟨Q.1, Q.2, fun k _ _ => ⟨fun h => h, fun f hf => .inr ⟨f.b.length, f.l, G.lasts f (lk_some hf).1, Nat.le_refl _, Nat.le_refl _, G.lasts f (lk_some hf).1, by
    rw [List.take_length, hf]
    have := (lk_some hf).2
    rw [← this]⟩⟩⟩
theorem inv_lgOf {nm : Bs} {per least b : Int} {gs : List Fi} {D : Dk} (hc : Chain b gs) (b0 : 0 ≤ b) (hs : ∀ f ∈ gs, Short f.g ∧ Tail f.tl)
    (ht : ∀ (j : Nat) (f : Fi), gs[j]? = some f → ∃ l, lk D.F (fn nm (least + (j : Int))) = some ⟨fn nm (least + (j : Int)), fiB f, l⟩ ∧ (j + 1 < gs.length → l = (fiB f).length) ∧ (j + 1 = gs.length → ((fileB [enc f.h.toNat] []).length ≤ l ∨ 1 < gs.length ∨ b = 0)))
    (ho : ∀ k, 1 ≤ k → k ≤ 999 → (gs = [] ∨ k < least ∨ least + (gs.length : Int) ≤ k) → lk D.F (fn nm k) = none) : Inv (lgOf nm per least gs) D gs := by
  refine ⟨rfl, rfl, ?_, hs, rfl, fun j f hj => ?_, fun k k0 k1 hk => ?_, ?_⟩
  · by_cases hz : gs = []
    · rw [hz]
      trivial
    · rw [lgOf_base hc hz]
      exact hc
  · have hz : gs ≠ [] := fun e => by rw [e] at hj; cases hj
    rw [lgOf_least hz]
    obtain ⟨l, q1, q2, q3⟩ := ht j f hj
    refine ⟨l, q1, q2, fun e => ?_⟩
    have hge := chain_ge hc (List.mem_of_getElem? hj)
    rcases q3 e with q | q
    · left
      show (fileB (enc f.h.toNat :: f.g.take (0 - f.h).toNat) []).length ≤ l
      rw [show (0 - f.h).toNat = 0 by omega]
      exact q
    · right
      rw [lgOf_base hc hz]
      exact ⟨by show (0 : Int) ≤ f.h; omega, q⟩
  · refine ho k k0 k1 ?_
    by_cases hz : gs = []
    · exact .inl hz
    · rw [lgOf_least hz, lgOf_nextF hz] at hk
      exact .inr hk
  · show (0 : Int) ≤ _
    unfold nextN
    by_cases hz : gs = []
    · subst hz
      show (0 : Int) ≤ 0 + ((0 : Nat) : Int)
      omega
    · rw [lgOf_base hc hz]
      omega
theorem rowI_snoc (a : Int) : ∀ n : Nat, rowI a (n + 1) = rowI a n ++ [a + (n : Int)] := fun n => by
  unfold rowI
  rw [List.range_succ, List.map_append]
  rfl
theorem rowI_len (a : Int) (n : Nat) : (rowI a n).length = n := by simp [rowI]
end Go.Proofs.YtfpmcomigolacaaGreatDoor.wal
set_option linter.unusedSimpArgs false
set_option linter.unusedVariables false
namespace Go.Proofs.YtfpmcomigolacaaGreatDoor.wal
open Go.Proofs.YtfpmcomigolacaaGreatDoor.enc Go.Proofs.YtfpmcomigolacaaGreatDoor.code Go.Proofs.YtfpmcomigolacaaGreatDoor.crcm Go.Proofs.YtfpmcomigolacaaGreatDoor.words Go.Proofs.YtfpmcomigolacaaGreatDoor.disk
/-- Between the taking of the files and the last Sync. -/
structure Mid (L : Lg) (D : Dk) (fs gs : List Fi) (D' D2 : Dk) : Prop where
  takes : takesV D' (lg0 L.nm L.per) (srtI (numsU L.nm D'.F)) = lgOf L.nm L.per L.least gs
  rm : rmV L.nm D' ((srtI (numsU L.nm D'.F)).drop gs.length).reverse = (0, D2)
  inv : Inv (lgOf L.nm L.per L.least gs) D2 gs
  pre : ∃ t, recsOf fs = recsOf gs ++ t
  syn : L.syn ≤ nextN (lgOf L.nm L.per L.least gs)
  base : gs ≠ [] → baseN (lgOf L.nm L.per L.least gs) = baseN L
  len : gs.length ≤ fs.length
  quiet : Quiet D2
  used : used D2.F ≤ used D'.F
  whole : (∀ k f, 1 ≤ k → k ≤ 999 → lk D.F (fn L.nm k) = some f → ∃ l, lk D'.F (fn L.nm k) = some ⟨fn L.nm k, f.b, l⟩) → gs = fs
theorem nums_row {nm : Bs} {D : Dk} {a : Int} {n : Nat} (G : GoodD D) (a0 : 1 ≤ a) (a1 : a + n ≤ 1000) (h : ∀ k, 1 ≤ k → k ≤ 999 → (lk D.F (fn nm k) ≠ none ↔ a ≤ k ∧ k < a + n)) : srtI (numsU nm D.F) = rowI a n := by
  refine sorted_row (nums_nodup G.srt) (fun x => ?_) (srt_perm _) (srt_sorted _)
  rw [nums_mem]
  constructor
  · rintro ⟨h1, h2, h3⟩
    exact (h x h1 h2).1 h3
  · rintro ⟨h1, h2⟩
    have h3 : 1 ≤ x := by omega
    have h4 : x ≤ 999 := by omega
    exact ⟨h3, h4, (h x h3 h4).2 ⟨h1, h2⟩⟩
theorem head_len (h : Nat) : 5 ≤ (fileB [enc h] []).length := by
  have := frame_pos (enc h)
  simp [fileB]
  omega
theorem head_pre (f : Fi) (i : Nat) : (fileB [enc f.h.toNat] []).length ≤ (fileB (enc f.h.toNat :: f.g.take i) []).length := file_pre (enc f.h.toNat :: f.g.take i) 1 []
theorem fi_len (f : Fi) : 5 ≤ (fiB f).length := by
  have h1 := head_len f.h.toNat
  have h2 := head_pre f 0
  have h3 := fi_pre f 0
  omega
section
variable {L : Lg} {D D' : Dk}
/-- What is there of files that are not the last one. -/
theorem cut_in {fs : List Fi} (h : Inv L D fs) (G : GoodL L) (C : Cut L.nm D D') {j : Nat} {f : Fi} (hj : fs[j]? = some f) (hl : j + 1 < fs.length) : lk D'.F (fn L.nm (L.least + (j : Int))) = some ⟨fn L.nm (L.least + (j : Int)), fiB f, (fiB f).length⟩ := by
  have hn := inv_len (D := D) h.heads
  have g1 := G.lo
  have g2 := G.hi
  obtain ⟨l, q1, q2, -⟩ := h.there j f hj
  have hl2 := q2 hl
  have h5 := fi_len f
  rcases ((C.lks (L.least + (j : Int)) (by omega) (by omega)).2 _ q1) with ⟨-, c2⟩ | ⟨n, l', c1, c2, c3, c4, c5⟩
  · have : l = 0 := c2
    omega
  · have c1' : l ≤ n := c1
    have c2' : n ≤ (fiB f).length := c2
    have c3' : l ≤ l' := c3
    rw [c5]
    show some (Fl.mk _ ((fiB f).take n) l') = some (Fl.mk _ _ _)
    rw [List.take_of_length_le (by omega), show l' = (fiB f).length by omega]
theorem cut_out {fs : List Fi} (h : Inv L D fs) (C : Cut L.nm D D') {k : Int} (k0 : 1 ≤ k) (k1 : k ≤ 999) (hk : k < L.least ∨ nextF L ≤ k) : lk D'.F (fn L.nm k) = none := (C.lks k k0 k1).1 (h.only k k0 k1 hk)
/-- The last file is gone, or of no use. -/
theorem mid_gone {fs : List Fi} {f : Fi} (h : Inv L D (fs ++ [f])) (G : GoodL L) (hb : nextN L ≤ 1099511627776) (C : Cut L.nm D D') (hB : L.syn ≤ f.h ∧ (1 < (fs ++ [f]).length ∨ baseN L = 0)) {D2 : Dk}
    (hD : ∀ k, 1 ≤ k → k ≤ 999 → lk D2.F (fn L.nm k) = if k = L.least + (fs.length : Int) then none else lk D'.F (fn L.nm k)) :
    Inv (lgOf L.nm L.per L.least fs) D2 fs ∧ L.syn ≤ nextN (lgOf L.nm L.per L.least fs) ∧ (fs ≠ [] → baseN (lgOf L.nm L.per L.least fs) = baseN L) := by
  have hn := inv_len (D := D) h.heads
  rw [List.length_append, List.length_singleton] at hn
  have g1 := G.lo
  have g2 := G.hi
  obtain ⟨c1, c2⟩ := chain_snoc.1 h.chain
  refine ⟨inv_lgOf c1 G.base (fun x hx => h.short x (List.mem_append_left _ hx)) (fun j x hj => ?_) (fun k k0 k1 hk => ?_), ?_, fun hz => lgOf_base c1 hz⟩
  · have hlt := (List.getElem?_eq_some_iff.1 hj).1
    rw [hD _ (by omega) (by omega), if_neg (by omega)]
    refine ⟨_, cut_in h G C (by rw [List.getElem?_append_left hlt]; exact hj) (by rw [List.length_append, List.length_singleton]; omega), fun _ => rfl, fun _ => .inl ?_⟩
    exact Nat.le_trans (head_pre x 0) (fi_pre x 0)
  · rw [hD k k0 k1]
    split
    · rfl
    · rename_i hne
      refine cut_out h C k0 k1 ?_
      rcases hk with hk | hk | hk
      · rw [hk] at hn hne
        simp at hn hne
        omega
      · exact .inl hk
      · right
        push_cast at hn
        omega
  · by_cases hz : fs = []
    · subst hz
      have hl : nextN (lgOf L.nm L.per L.least []) = 0 := rfl
      rw [hl]
      have hf : f.h = baseN L := by simpa [recsOf] using c2
      rcases hB with ⟨b1, b2 | b2⟩
      · exact absurd b2 (by simp)
      · omega
    · rw [lgOf_next c1 hz, ← c2]
      exact hB.1
theorem read_up (ho : D'.off = false) {n : Bs} {f : Fl} (h : lk D'.F n = some f) : readV D' n = f.b := by
  unfold readV
  rw [if_neg (by rw [ho]; decide), (old_of h).1]
theorem mid_any {fs : List Fi} (h : Inv L D fs) (G : GoodL L) (hb : nextN L ≤ 1099511627776) (C : Cut L.nm D D') (GD : GoodD D') (hnm : nameB L.nm = true) : ∃ gs D2, Mid L D fs gs D' D2 := by
  have hn := inv_len (D := D) h.heads
  have g1 := G.lo
  have g2 := G.hi
  have Q : Quiet D' := ⟨C.off, C.left⟩
  by_cases hz : fs = []
  · subst hz
    have hno : ∀ k, 1 ≤ k → k ≤ 999 → lk D'.F (fn L.nm k) = none := fun k k0 k1 => by
      refine cut_out h C k0 k1 ?_
      simp at hn
      omega
    have hs : srtI (numsU L.nm D'.F) = [] := by
      have := nums_row (nm := L.nm) (a := 1) (n := 0) GD (by omega) (by simp) (fun k k0 k1 => by
        rw [hno k k0 k1]
        constructor
        · intro h; exact absurd rfl h
        · rintro ⟨h1, h2⟩
          simp at h2
          omega)
      rw [this]
      rfl
    refine ⟨[], D', ?_, ?_, ?_, ⟨[], rfl⟩, ?_, fun e => absurd rfl e, Nat.le_refl _, Q, Nat.le_refl _, fun _ => rfl⟩
    · rw [hs]
      rfl
    · rw [hs]
      rfl
    · exact inv_lgOf (b := 0) trivial (Int.le_refl _) (fun _ hx => nomatch hx) (fun j f hj => by cases hj) (fun k k0 k1 _ => hno k k0 k1)
    · have := h.syn
      rw [h.nxt] at this
      have hb0 : baseN L = 0 := by unfold baseN; rw [h.heads]; rfl
      rw [hb0] at this
      exact this
  obtain ⟨fs, f, rfl⟩ := snoc_of hz
  clear hz
  rw [List.length_append, List.length_singleton] at hn
  push_cast at hn
  obtain ⟨c1, c2⟩ := chain_snoc.1 h.chain
  obtain ⟨l, q1, -, q3⟩ := h.there fs.length f (by simp)
  have hSyn := q3 (by simp)
  have hin : ∀ (j : Nat) (x : Fi), fs[j]? = some x → lk D'.F (fn L.nm (L.least + (j : Int))) = some ⟨fn L.nm (L.least + (j : Int)), fiB x, (fiB x).length⟩ := fun j x hj => by
    have hlt := (List.getElem?_eq_some_iff.1 hj).1
    exact cut_in h G C (by rw [List.getElem?_append_left hlt]; exact hj) (by rw [List.length_append, List.length_singleton]; omega)
  have hrd : ∀ (j : Nat) (x : Fi), fs[j]? = some x → readV D' (fn L.nm (L.least + (j : Int))) = fiB x := fun j x hj => read_up C.off (hin j x hj)
  have hnone : ∀ k, 1 ≤ k → k ≤ 999 → k ≠ L.least + (fs.length : Int) → (lk D'.F (fn L.nm k) ≠ none ↔ L.least ≤ k ∧ k < L.least + (fs.length : Int)) := fun k k0 k1 hne => by
    constructor
    · intro e
      refine Classical.byContradiction fun hc => e (cut_out h C k0 k1 ?_)
      omega
    · rintro ⟨h1, h2⟩
      obtain ⟨j, hj⟩ : ∃ j : Nat, k = L.least + (j : Int) := ⟨(k - L.least).toNat, by omega⟩
      have hlt : j < fs.length := by omega
      rw [hj, hin j fs[j] (List.getElem?_eq_getElem hlt)]
      simp
  have hsh := h.short f (by simp)
  have hT : Short (enc f.h.toNat :: f.g) := short_cons hsh.1
  have hbnd : baseN L + ((recsOf (fs ++ [f])).length : Int) ≤ 1099511627776 := by rw [← h.nxt]; exact hb
  have hbnd1 : baseN L + ((recsOf fs).length : Int) ≤ 1099511627776 := by
    rw [recs_snoc, List.length_append] at hbnd
    push_cast at hbnd
    omega
  have htk := fun rest => takes_fs (nm := L.nm) (per := L.per) (least := L.least) (b := baseN L) (D := D') rest G.base fs [] c1 (by simpa using hbnd1) (fun x hx => h.short x (List.mem_append_left _ hx)) (fun j x hj => by
    have := hrd j x hj
    simpa using this)
  have htk1 : ∀ rest, takesV D' (lg0 L.nm L.per) (rowI L.least fs.length ++ rest) = takesV D' (lgOf L.nm L.per L.least fs) rest := fun rest => by
    have := htk rest
    simpa [lgOf_nil] using this
  rcases ((C.lks (L.least + (fs.length : Int)) (by omega) (by omega)).2 _ q1) with ⟨d1, d2⟩ | ⟨n, l', d1, d2, d3, d4, d5⟩
  · -- the last file is not there
    have hl0 : l = 0 := d2
    have hB : L.syn ≤ f.h ∧ (1 < (fs ++ [f]).length ∨ baseN L = 0) := by
      rcases hSyn with h1 | h1
      · have h2 := head_len f.h.toNat
        have h3 := head_pre f (L.syn - f.h).toNat
        omega
      · exact h1
    have hs : srtI (numsU L.nm D'.F) = rowI L.least fs.length := nums_row GD g1 (by omega) (fun k k0 k1 => by
      by_cases e : k = L.least + (fs.length : Int)
      · rw [e, d1]
        constructor
        · intro h; exact absurd rfl h
        · rintro ⟨h1, h2⟩
          omega
      · exact hnone k k0 k1 e)
    obtain ⟨i1, i2, i3⟩ := mid_gone h G hb C hB (D2 := D') (fun k k0 k1 => by
      split
      · rename_i e
        rw [e, d1]
      · rfl)
    refine ⟨fs, D', ?_, ?_, i1, ⟨f.g, recs_snoc _ _⟩, i2, i3, by simp, Q, Nat.le_refl _, fun hw => ?_⟩
    · rw [hs]
      have := htk1 []
      rwa [List.append_nil] at this
    · rw [hs, List.drop_of_length_le (Nat.le_of_eq (rowI_len _ _))]
      rfl
    · obtain ⟨l2, hl2⟩ := hw _ _ (by omega) (by omega) q1
      rw [d1] at hl2
      cases hl2
  · have d1' : l ≤ n := d1
    have d2' : n ≤ (fiB f).length := d2
    have d3' : l ≤ l' := d3
    have d5' : lk D'.F (fn L.nm (L.least + (fs.length : Int))) = some ⟨fn L.nm (L.least + (fs.length : Int)), (fiB f).take n, l'⟩ := d5
    have hs : srtI (numsU L.nm D'.F) = rowI L.least fs.length ++ [L.least + (fs.length : Int)] := by
      rw [← rowI_snoc]
      refine nums_row GD g1 (by push_cast; omega) (fun k k0 k1 => ?_)
      by_cases e : k = L.least + (fs.length : Int)
      · rw [e, d5']
        constructor
        · intro _
          push_cast
          omega
        · intro _
          simp
      · rw [hnone k k0 k1 e]
        push_cast
        omega
    obtain ⟨tl', e1, e2⟩ := file_take (enc f.h.toNat :: f.g) f.tl n hT hsh.2
    have hrl := read_up C.off d5'
    have hle := inN_le (enc f.h.toNat :: f.g) n
    cases hi : inN (enc f.h.toNat :: f.g) n with
    | zero =>
      rw [hi] at e1
      have hhead : ¬ (fileB [enc f.h.toNat] []).length ≤ n := fun hx => by
        have := inN_ge (enc f.h.toNat :: f.g) n 1 (by simp) (by simpa using hx)
        omega
      have hB : L.syn ≤ f.h ∧ (1 < (fs ++ [f]).length ∨ baseN L = 0) := by
        rcases hSyn with h1 | h1
        · exfalso
          have h3 := head_pre f (L.syn - f.h).toNat
          exact hhead (by omega)
        · exact h1
      have hlk : lk D'.F (fn L.nm (L.least + (fs.length : Int))) ≠ none := by rw [d5']; simp
      obtain ⟨r1, r2, r3, r4⟩ := remQ Q GD (name_fn hnm G.len (k := L.least + (fs.length : Int)) (by omega) (by omega)) hlk
      obtain ⟨i1, i2, i3⟩ := mid_gone h G hb C hB (D2 := remV D' (fn L.nm (L.least + (fs.length : Int)))) (fun k k0 k1 => by
        rw [r4]
        by_cases e : k = L.least + (fs.length : Int)
        · rw [if_pos (by rw [e]), if_pos e]
        · rw [if_neg (fun x => e (fn_inj (by omega) (by omega) (by omega) (by omega) x)), if_neg e])
      refine ⟨fs, remV D' (fn L.nm (L.least + (fs.length : Int))), ?_, ?_, i1, ⟨f.g, recs_snoc _ _⟩, i2, i3, by simp, r2, r3, fun hw => ?_⟩
      · rw [hs, htk1]
        show (if takeB _ D' _ = true then _ else _) = _
        have ht : takeB (lgOf L.nm L.per L.least fs) D' (L.least + (fs.length : Int)) = false := by
          unfold takeB
          split
          · rfl
          · have : textsV (lgOf L.nm L.per L.least fs) D' (L.least + (fs.length : Int)) = [] := by
              show (frsV (readV D' (fn L.nm (L.least + (fs.length : Int))))).1 = []
              rw [hrl]
              show (frsV ((fiB f).take n)).1 = []
              unfold fiB
              rw [e1, List.take_zero, file_frs (by intro x hx; cases hx) e2]
            rw [this]
        rw [if_neg (by rw [ht]; decide)]
      · rw [hs, List.drop_left' (by rw [rowI_len])]
        show (if onE D' _ ≠ 0 then _ else _) = _
        rw [if_neg (by rw [r1]; decide)]
        rfl
      · exfalso
        obtain ⟨l2, hl2⟩ := hw _ _ (by omega) (by omega) q1
        rw [d5'] at hl2
        have hb2 : (fiB f).take n = fiB f := congrArg Fl.b (Option.some.inj hl2)
        have := congrArg List.length hb2
        rw [List.length_take] at this
        have h3 := head_pre f 0
        have h4 := fi_pre f 0
        exact hhead (by omega)
    | succ i =>
      rw [hi] at e1 hle
      rw [List.take_succ_cons] at e1
      have hil : i ≤ f.g.length := by simpa using hle
      have e1' : (fiB f).take n = fiB ⟨f.h, f.g.take i, tl'⟩ := e1
      have hc3 : Chain (baseN L) (fs ++ [⟨f.h, f.g.take i, tl'⟩]) := chain_snoc.2 ⟨c1, c2⟩
      have hsh2 : ∀ x ∈ fs ++ [(⟨f.h, f.g.take i, tl'⟩ : Fi)], Short x.g ∧ Tail x.tl := fun x hx => by
        rcases List.mem_append.1 hx with hx | hx
        · exact h.short x (List.mem_append_left _ hx)
        · rw [List.mem_singleton] at hx
          subst hx
          exact ⟨fun y hy => hsh.1 y (List.mem_of_mem_take hy), e2⟩
      have hlen2 : (fs ++ [(⟨f.h, f.g.take i, tl'⟩ : Fi)]).length = (fs ++ [f]).length := by simp
      have hne : fs ++ [(⟨f.h, f.g.take i, tl'⟩ : Fi)] ≠ [] := by simp
      have hrl2 : ((recsOf (fs ++ [(⟨f.h, f.g.take i, tl'⟩ : Fi)])).length : Int) = ((recsOf fs).length : Int) + (i : Int) := by
        rw [recs_snoc, List.length_append, List.length_take]
        push_cast
        omega
      refine ⟨fs ++ [⟨f.h, f.g.take i, tl'⟩], D', ?_, ?_, ?_, ?_, ?_, fun _ => lgOf_base hc3 hne, Nat.le_of_eq hlen2, Q, Nat.le_refl _, fun hw => ?_⟩
      · rw [hs, htk1]
        obtain ⟨t1, t2⟩ := take_fi (nm := L.nm) (per := L.per) (least := L.least) (k := L.least + (fs.length : Int)) (D := D') rfl hc3 G.base hbnd1 (hsh2 _ (by simp)).1 (hsh2 _ (by simp)).2 (by rw [hrl]; exact e1')
        show (if takeB _ D' _ = true then takesV D' (takeV _ D' _) [] else _) = _
        rw [if_pos t1, t2]
        rfl
      · rw [hs, List.drop_of_length_le (by simp [rowI_len])]
        rfl
      · refine inv_lgOf hc3 G.base hsh2 (fun j x hj => ?_) (fun k k0 k1 hk => ?_)
        · have hlt := (List.getElem?_eq_some_iff.1 hj).1
          rw [hlen2, List.length_append, List.length_singleton] at hlt
          rw [hlen2, List.length_append, List.length_singleton]
          by_cases e : j = fs.length
          · obtain rfl := get_snoc_eq hj e
            rw [e, d5', e1']
            refine ⟨l', rfl, fun x => by omega, fun _ => ?_⟩
            rcases hSyn with h1 | ⟨h1, h2⟩
            · left
              have h3 := head_pre f (L.syn - f.h).toNat
              show (fileB [enc f.h.toNat] []).length ≤ l'
              omega
            · right
              rw [List.length_append, List.length_singleton] at h2
              exact h2
          · refine ⟨_, hin j x (get_snoc_lt hj e), fun _ => rfl, fun x => by omega⟩
        · refine cut_out h C k0 k1 ?_
          rw [hlen2, List.length_append, List.length_singleton] at hk
          rcases hk with hk | hk | hk
          · exact absurd hk hne
          · exact .inl hk
          · right
            push_cast at hk
            omega
      · refine ⟨f.g.drop i, ?_⟩
        rw [recs_snoc, recs_snoc, List.append_assoc, List.take_append_drop]
      · rw [lgOf_next hc3 hne, hrl2]
        have hsn := h.syn
        rw [h.nxt, recs_snoc, List.length_append] at hsn
        push_cast at hsn
        rcases hSyn with h1 | ⟨h1, h2⟩
        · have := inN_ge (enc f.h.toNat :: f.g) n ((L.syn - f.h).toNat + 1) (by simp; omega) (by rw [List.take_succ_cons]; omega)
          omega
        · omega
      · obtain ⟨l2, hl2⟩ := hw _ _ (by omega) (by omega) q1
        rw [d5'] at hl2
        have hb2 : (fiB f).take n = fiB f := congrArg Fl.b (Option.some.inj hl2)
        rw [e1'] at hb2
        have h3 := congrArg frsV hb2
        have hx := hsh2 ⟨f.h, f.g.take i, tl'⟩ (by simp)
        rw [fi_frs hx.1 hx.2, fi_frs hsh.1 hsh.2] at h3
        have h4 : f.g.take i = f.g := (List.cons.inj (congrArg Prod.fst h3)).2
        have h5 : tl' = f.tl := by
          unfold fiB fileB at hb2
          rw [h4] at hb2
          exact List.append_cancel_left hb2
        rw [h4, h5]
/-- What is opened anew. -/
structure Anew (L : Lg) (D D' : Dk) (fs gs : List Fi) (X : Int × Lg × Dk) : Prop where
  ok : X.1 = 0
  inv : Inv X.2.1 X.2.2 gs
  firm : Firm X.2.1 X.2.2 gs
  run : Run X.2.1 X.2.2
  nm : X.2.1.nm = L.nm
  per : X.2.1.per = L.per
  syn : X.2.1.syn = nextN X.2.1
  pre : ∃ t, L.recs = X.2.1.recs ++ t
  lasts : L.syn ≤ nextN X.2.1
  base : X.2.1.heads ≠ [] → baseN X.2.1 = baseN L
  upto : nextN X.2.1 ≤ nextN L
  next : nextF X.2.1 ≤ nextF L
  used : used X.2.2.F ≤ used D'.F
  files : X.2.2.F.length ≤ D'.F.length + 1
  whole : (∀ k f, 1 ≤ k → k ≤ 999 → lk D.F (fn L.nm k) = some f → ∃ l, lk D'.F (fn L.nm k) = some ⟨fn L.nm k, f.b, l⟩) → X.2.1.heads = L.heads ∧ X.2.1.recs = L.recs
theorem anew {fs : List Fi} (h : Inv L D fs) (G : GoodL L) (hb : nextN L ≤ 1099511627776) (C : Cut L.nm D D') (GD : GoodD D') (hnm : nameB L.nm = true) (hd : isDig (L.nm.getLast?.getD 0) = false) (hp : 1 ≤ L.per ∧ L.per ≤ 64) :
    ∃ gs X, opnV D' L.nm L.per (srtI (numsU L.nm D'.F)) = X ∧ Anew L D D' fs gs X := by
  obtain ⟨gs, D2, M⟩ := mid_any h G hb C GD hnm
  have hn := inv_len (D := D) h.heads
  have g1 := G.lo
  have hchk : chkE D' L.nm L.per = 0 := by
    unfold chkE
    rw [if_neg (by rw [C.off]; decide), if_neg (by rw [hnm]; decide), if_neg (by have := G.len; omega), if_neg (by rw [hd]; decide), if_neg (by omega)]
  have hhl : (lgOf L.nm L.per L.least gs).heads.length = gs.length := by
    show (gs.map Fi.h).length = _
    rw [List.length_map]
  have hmem : ∀ k ∈ srtI (numsU L.nm D'.F), 1 ≤ k ∧ k ≤ 999 := fun k hk => by
    have := (nums_mem.1 ((srt_perm _).mem_iff.1 hk))
    exact ⟨this.1, this.2.1⟩
  have T := (tk_takes GD _ hmem _ (tk_zero (nm := L.nm) L.per G.len)).1
  rw [M.takes] at T
  have GD2 := rm_good (nm := L.nm) ((srtI (numsU L.nm D'.F)).drop gs.length).reverse D' GD
  rw [M.rm] at GD2
  have hnl := inv_len (D := D2) M.inv.heads
  have R : Run (lgOf L.nm L.per L.least gs) D2 := ⟨T.good, GD2.1, T.bare, M.quiet, rfl, fun k k0 k1 => name_fn hnm G.len k0 k1, fun k k0 k1 => by
    obtain ⟨j, hj⟩ : ∃ j : Nat, k = (lgOf L.nm L.per L.least gs).least + (j : Int) := ⟨(k - (lgOf L.nm L.per L.least gs).least).toNat, by omega⟩
    have hlt : j < gs.length := by omega
    obtain ⟨l, q1, -⟩ := M.inv.there j gs[j] (List.getElem?_eq_getElem hlt)
    rw [hj, q1]
    simp⟩
  obtain ⟨s1, s2, s3, s4⟩ := R.sy
  obtain ⟨i1, i2⟩ := M.inv.sync T.good GD2.1
  obtain ⟨f1, f2⟩ := i2 s1
  obtain ⟨n1, n2, n3⟩ := sy_next (lgOf L.nm L.per L.least gs) D2
  obtain ⟨q1, q2, q3, q4, q5, q6⟩ := sy_fields (lgOf L.nm L.per L.least gs) D2
  have hopn : opnV D' L.nm L.per (srtI (numsU L.nm D'.F)) = (0, syL (lgOf L.nm L.per L.least gs) D2, syD (lgOf L.nm L.per L.least gs) D2) := by
    unfold opnV
    rw [if_neg (by rw [hchk]; decide)]
    dsimp only
    rw [M.takes, hhl, M.rm]
    dsimp only
    rw [if_neg (by decide), s1]
  obtain ⟨t, ht⟩ := M.pre
  refine ⟨gs, _, hopn, rfl, i1, f1, s2, q1, q2, by show (syL _ D2).syn = nextN (syL _ D2); rw [f2, n1], ⟨t, by show L.recs = (syL _ D2).recs ++ t; rw [q5, h.recs]; exact ht⟩, by show _ ≤ nextN (syL _ D2); rw [n1]; exact M.syn, ?_, ?_, ?_, ?_, ?_, ?_⟩
  · show (syL _ D2).heads ≠ [] → baseN (syL _ D2) = _
    rw [q4, n3]
    intro hh
    refine M.base fun e => hh ?_
    rw [e]
    rfl
  · show nextN (syL _ D2) ≤ _
    rw [n1]
    have hbase := G.base
    have e1 : (recsOf fs).length = (recsOf gs).length + t.length := by rw [ht, List.length_append]
    by_cases hz : gs = []
    · rw [hz]
      show (0 : Int) + ((0 : Nat) : Int) ≤ _
      rw [h.nxt]
      omega
    · unfold nextN
      rw [M.base hz, h.recs]
      show baseN L + ((recsOf gs).length : Int) ≤ _
      omega
  · show nextF (syL _ D2) ≤ _
    rw [n2, hnl, hn]
    have := M.len
    by_cases hz : gs = []
    · rw [hz]
      show (1 : Int) + ((0 : Nat) : Int) ≤ _
      omega
    · rw [lgOf_least hz]
      omega
  · show disk.used (syD _ D2).F ≤ _
    rw [s3]
    exact M.used
  · have := (good_syD GD2.1 (lgOf L.nm L.per L.least gs)).2
    have h2 := GD2.2
    show (syD _ D2).F.length ≤ _
    dsimp only at h2 this
    omega
  · intro hw
    have := M.whole hw
    show (syL _ D2).heads = _ ∧ (syL _ D2).recs = _
    rw [q4, q5, this, h.heads, h.recs]
    exact ⟨rfl, rfl⟩
end
end Go.Proofs.YtfpmcomigolacaaGreatDoor.wal
