/-
  The graph of a graph's text is that graph (mathematics).
  What a parse of a graph keeps: how many parts there are, how long the names are, that the numbers are numbers (mathematics).
-/
import Derived.Test.YtpblpjopinllcaaGreatDoorJGsc
import Derived.Test.YtpblpjopinllcaaGreatDoorJGt1o
import Derived.Test.YtpblpjopinllcaaGreatDoorJOg
set_option linter.unusedSimpArgs false
set_option linter.unusedVariables false
namespace Go.Proofs.YtpblpjopinllcaaGreatDoor.graph
open Go.Proofs.YtpblpjopinllcaaGreatDoor.words

/-! ### Lines and words -/
theorem lines_end (a r : Bs) (h : (10 : UInt8) ∉ a) : linesL (a ++ [10] ++ r) = a :: linesL r := by
  unfold linesL
  rw [List.append_assoc, linesC_app a [] _ h]
  simp [linesC]
theorem lines_flat : ∀ {M : List Bs}, (∀ x ∈ M, (10 : UInt8) ∉ x) → linesL (M.map (· ++ [10])).flatten = M
  | [], _ => rfl
  | x :: r, h => by
    rw [List.map_cons, List.flatten_cons, lines_end x _ (h x (by simp)), lines_flat fun y hy => h y (by simp [hy])]
/-- A word as it stands in a line. -/
structure PlainW (x : Bs) : Prop where
  ne : x ≠ []
  sp : (32 : UInt8) ∉ x
  nl : (10 : UInt8) ∉ x
  note : isNote x = false
theorem split_tail (x : Bs) (r : List Bs) (hx : PlainW x) (hr : ∀ y ∈ r, PlainW y) : splitC [] (x ++ Lib.joinTail [32] r) = x :: r := by
  induction r generalizing x with
  | nil =>
    show splitC [] (x ++ []) = _
    rw [splitC_word x [] hx.sp hx.note hx.ne]
    unfold splitC
    rw [if_neg hx.ne]
  | cons y q ih =>
    have e : Lib.joinTail [32] (y :: q) = 32 :: (y ++ Lib.joinTail [32] q) := by simp [Lib.joinTail]
    rw [e, splitC_word x _ hx.sp hx.note hx.ne]
    have : splitC x (32 :: (y ++ Lib.joinTail [32] q)) = x :: splitC [] (y ++ Lib.joinTail [32] q) := by
      rw [splitC, if_pos rfl, if_neg hx.ne]
    rw [this, ih y (hr y (by simp)) fun z hz => hr z (by simp [hz])]
theorem split_line (l : List Bs) (h : ∀ x ∈ l, PlainW x) : splitL (Lib.join l [32]) = l := by
  cases l with
  | nil => rfl
  | cons x r =>
    rw [Lib.join_cons]
    exact split_tail x r (h x (by simp)) fun y hy => h y (by simp [hy])
theorem line_nl (l : List Bs) (h : ∀ x ∈ l, PlainW x) : (10 : UInt8) ∉ Lib.join l [32] := by
  cases l with
  | nil => simp [Lib.join_nil]
  | cons x r =>
    rw [Lib.join_cons]
    intro hm
    rcases List.mem_append.1 hm with hm | hm
    · exact (h x (by simp)).nl hm
    · unfold Lib.joinTail at hm
      rw [List.mem_flatten] at hm
      obtain ⟨z, hz, hm⟩ := hm
      obtain ⟨y, hy, rfl⟩ := List.mem_map.1 hz
      rcases List.mem_append.1 hm with hm | hm
      · simp at hm
      · exact (h y (by simp [hy])).nl hm
/-! ### Words are plain -/
def goodC (c : UInt8) : Bool := c != 32 && c != 10 && c != 35
theorem plain_of {x : Bs} (h0 : x ≠ []) (h : ∀ c ∈ x, goodC c = true) : PlainW x := by
  refine ⟨h0, fun hm => by have := h _ hm; simp [goodC] at this, fun hm => by have := h _ hm; simp [goodC] at this, ?_⟩
  cases x with
  | nil => exact absurd rfl h0
  | cons c r =>
    rw [isNote_cons]
    have := h c (by simp)
    simp [goodC] at this
    simp [this]
theorem good_num {c : UInt8} (h : c.toNat = 45 ∨ (48 ≤ c.toNat ∧ c.toNat ≤ 57) ∨ (97 ≤ c.toNat ∧ c.toNat ≤ 122)) : goodC c = true := by
  have k : ∀ n : Nat, n < 256 → c = UInt8.ofNat n → c.toNat = n := fun n hn e => by rw [e]; simp; omega
  unfold goodC
  simp only [Bool.and_eq_true, bne_iff_ne]
  refine ⟨⟨fun e => ?_, fun e => ?_⟩, fun e => ?_⟩
  · have := k 32 (by decide) e; omega
  · have := k 10 (by decide) e; omega
  · have := k 35 (by decide) e; omega
theorem good_name {n : Bs} (h : nameB n = true) : n ≠ [] ∧ ∀ c ∈ n, goodC c = true := by
  unfold nameB at h
  cases n with
  | nil => simp at h
  | cons c r =>
    simp only [Bool.and_eq_true, List.all_eq_true, Bool.or_eq_true] at h
    refine ⟨by simp, fun d hd => good_num ?_⟩
    rcases List.mem_cons.1 hd with rfl | hd
    · have := h.2.1
      simp only [isA, decide_eq_true_eq] at this
      exact .inr (.inr this)
    · rcases h.2.2 d hd with h1 | h1
      · simp only [isA, decide_eq_true_eq] at h1
        exact .inr (.inr h1)
      · simp only [isD, decide_eq_true_eq] at h1
        exact .inr (.inl h1)
theorem good_itoa (n : Int) (h : I64 n) : ∀ c ∈ Lib.itoa n, goodC c = true := by
  obtain ⟨-, h2, -, -⟩ := itoa_shape n h.1 h.2
  intro c hc
  unfold frontN at h2
  split at h2
  · rename_i h45
    cases hi : Lib.itoa n with
    | nil => rw [hi] at hc; cases hc
    | cons d r =>
      rw [hi] at hc h2 h45
      rcases List.mem_cons.1 hc with rfl | hc
      · have : c = 45 := by simpa using h45
        rw [this]
        rfl
      · exact good_num (.inr (.inl (h2 c (by simpa using hc))))
  · exact good_num (.inr (.inl (h2 c (by simpa using hc))))
theorem plain_name {n : Bs} (h : nameB n = true) : PlainW n := plain_of (good_name h).1 (good_name h).2
theorem plain_front {a b : Bs} (h0 : a ≠ []) (ha : a.all goodC = true) (hb : ∀ c ∈ b, goodC c = true) : PlainW (a ++ b) := by
  refine plain_of (by simp [h0]) fun c hc => ?_
  rcases List.mem_append.1 hc with hc | hc
  · exact List.all_eq_true.1 ha c hc
  · exact hb c hc
theorem plain_lit {a : Bs} (h0 : a ≠ []) (ha : a.all goodC = true) : PlainW a := plain_of h0 fun c hc => List.all_eq_true.1 ha c hc
theorem plain_word (k : Int) (h1 : 1 ≤ k) (h2 : k ≤ 14) : PlainW (wordB k) := by
  rcases (show k = 1 ∨ k = 2 ∨ k = 3 ∨ k = 4 ∨ k = 5 ∨ k = 6 ∨ k = 7 ∨ k = 8 ∨ k = 9 ∨ k = 10 ∨ k = 11 ∨ k = 12 ∨ k = 13 ∨ k = 14 by omega) with rfl | rfl | rfl | rfl | rfl | rfl | rfl | rfl | rfl | rfl | rfl | rfl | rfl | rfl <;> exact plain_lit (by decide) (by decide)
theorem kind_word (k : Int) (h1 : 1 ≤ k) (h2 : k ≤ 14) : (kindN (wordB k) : Int) = k := by
  rcases (show k = 1 ∨ k = 2 ∨ k = 3 ∨ k = 4 ∨ k = 5 ∨ k = 6 ∨ k = 7 ∨ k = 8 ∨ k = 9 ∨ k = 10 ∨ k = 11 ∨ k = 12 ∨ k = 13 ∨ k = 14 by omega) with rfl | rfl | rfl | rfl | rfl | rfl | rfl | rfl | rfl | rfl | rfl | rfl | rfl | rfl <;> decide
/-! ### Fronts -/
theorem prefix_app (a b : Bs) : Lib.hasPrefix (a ++ b) a = true := by
  unfold Lib.hasPrefix
  simp
theorem num_front (f : Bs) (n : Int) (h : I64 n) : numE f (f ++ Lib.itoa n) = 0 ∧ numV f (f ++ Lib.itoa n) = n := by
  unfold numE numV
  rw [if_pos (prefix_app _ _), if_pos (prefix_app _ _), List.drop_left]
  exact sgE_some (sg_itoa n h.1 h.2)
theorem pl_front {ix : List Bs → Bs → Option Nat} (f : Bs) (N : List Bs) (n : Bs) {k : Nat} (h : ix N n = some k) : plE ix f N (f ++ n) = 0 ∧ plV ix f N (f ++ n) = k := by
  unfold plE plV
  rw [if_pos (prefix_app _ _), if_pos (prefix_app _ _), List.drop_left, h]
  exact ⟨rfl, rfl⟩
theorem ix_here {ix : List Bs → Bs → Option Nat} (hi : IxOk ix) {N : List Bs} (hn : N.Nodup) {k : Nat} {n : Bs} (h : N[k]? = some n) : ix N n = some k := by
  obtain ⟨j, hj⟩ := hi.mem (List.mem_of_getElem? h)
  rw [hj, nodup_at hn (hi.at_ hj) h]
/-! ### Segments of lines -/
theorem seg {ix : List Bs → Bs → Option Nat} {α : Type} (ws : α → List Bs) (rest : List Bs) : ∀ (L : List α) (S : Nat → Gr) (i : Nat), (∀ x ∈ L, ∀ y ∈ ws x, PlainW y) → (∀ k x, L[k]? = some x → lineF ix (S k) (ws x) = (0, S (k + 1))) →
    parseF ix ((L.map fun x => Lib.join (ws x) [32]) ++ rest) i (S 0) = parseF ix rest (i + L.length) (S L.length)
  | [], S, i, _, _ => rfl
  | x :: r, S, i, hp, h => by
    have h0 := h 0 x rfl
    rw [List.map_cons, List.cons_append]
    rw [show parseF ix (Lib.join (ws x) [32] :: ((r.map fun x => Lib.join (ws x) [32]) ++ rest)) i (S 0) = if (lineF ix (S 0) (splitL (Lib.join (ws x) [32]))).1 ≠ 0 then (noG, (i : Int) + 1, (lineF ix (S 0) (splitL (Lib.join (ws x) [32]))).1) else parseF ix ((r.map fun x => Lib.join (ws x) [32]) ++ rest) (i + 1) (lineF ix (S 0) (splitL (Lib.join (ws x) [32]))).2 from rfl]
    rw [split_line _ (hp x (by simp)), h0, if_neg (by simp)]
    have := seg ws rest r (fun k => S (k + 1)) (i + 1) (fun y hy => hp y (by simp [hy])) fun k y hk => h (k + 1) y (by simpa using hk)
    rw [this, List.length_cons, show i + 1 + r.length = i + (r.length + 1) by omega]
theorem clE_parts {C : List Cl} {k : Nat} {x : Cl} (hx : C[k]? = some x) (h : clE C k = 0) : nameB x.n = true := by
  unfold clE at h
  rw [hx] at h
  dsimp only at h
  split at h
  · rename_i h1
    exact absurd h h1
  · rename_i h1
    exact nameE_zero (by simpa using h1)
theorem loE_parts {L : List Lo} {k : Nat} {x : Lo} (hx : L[k]? = some x) (h : loE L k = 0) : nameB x.n = true ∧ -1 ≤ x.u ∧ x.u < k := by
  unfold loE at h
  rw [hx] at h
  dsimp only at h
  split at h
  · rename_i h1
    exact absurd h h1
  · rename_i h1
    split at h
    · cases h
    · exact ⟨nameE_zero (by simpa using h1), by omega, by omega⟩
theorem no_minus {n : Bs} (h : nameB n = true) : kwIn ++ n ≠ kwInNo := by
  intro e
  have : n = [45] := by simpa using e
  rw [this] at h
  exact absurd h (by decide)
/-- What a graph's loop word says. -/
theorem in_word {ix : List Bs → Bs → Option Nat} (hi : IxOk ix) {L : List Lo} (N : List Bs) (hN : N.Nodup) (hLN : ∀ k x, L[k]? = some x → N[k]? = some x.n ∨ N.length ≤ k) (hnm : ∀ x ∈ L, nameB x.n = true) {g : Gr} (hg : g.l = L) (u : Int) (h0 : -1 ≤ u) (h1 : u < N.length) (h2 : u < L.length) :
    lpE ix N (inW g u) = 0 ∧ lpV ix N (inW g u) = u := by
  unfold lpE lpV inW
  by_cases hu : u < 0
  · rw [if_pos hu]
    have : ([105, 110, 61] : Bs) ++ [45] = kwInNo := rfl
    rw [if_pos this, if_pos this]
    exact ⟨rfl, by omega⟩
  · rw [if_neg hu, hg]
    obtain ⟨x, hx⟩ : ∃ x, L[u.toNat]? = some x := ⟨_, List.getElem?_eq_getElem (by omega)⟩
    rw [hx]
    dsimp only
    have hne := no_minus (hnm x (List.mem_of_getElem? hx))
    rw [if_neg hne, if_neg hne]
    have hxn : N[u.toNat]? = some x.n := (hLN _ x hx).resolve_right (by omega)
    obtain ⟨e1, e2⟩ := pl_front (ix := ix) kwIn N x.n (ix_here hi hN hxn)
    refine ⟨e1, ?_⟩
    rw [e2]
    omega
theorem names_take {α : Type} {L : List α} {f : α → Bs} {k j : Nat} {x : α} (h : L[j]? = some x) : ((L.take k).map f)[j]? = some (f x) ∨ ((L.take k).map f).length ≤ j := by
  by_cases hj : j < k
  · left
    rw [List.getElem?_map, List.getElem?_take, if_pos hj, h]
    rfl
  · right
    rw [List.length_map, List.length_take]
    omega
theorem take_snoc {α : Type} {L : List α} {k : Nat} {x : α} (h : L[k]? = some x) : L.take (k + 1) = L.take k ++ [x] := by rw [List.take_add_one, h]; rfl
theorem nums_zero {k x y : Int} (h : numsB k x y = true) (h1 : 1 ≤ k) (h2 : k ≤ 14) : (moreK k = 0 → x = 0 ∧ y = 0) ∧ (moreK k = 1 → y = 0) := by
  unfold numsB at h
  unfold moreK
  constructor
  · intro hm
    split at hm
    · cases hm
    · split at hm
      · cases hm
      · rename_i a b
        rw [if_neg (by omega), if_neg (by omega), if_neg (by omega), if_neg (by omega)] at h
        simpa using h
  · intro hm
    split at hm
    · cases hm
    · split at hm
      · rename_i a b
        rw [if_neg (by omega), if_neg (by omega)] at h
        split at h
        · have := of_decide_eq_true h; exact this.2.2
        · split at h
          · have := of_decide_eq_true h; exact this.2.2
          · rename_i c d
            omega
      · cases hm
/-- THE GRAPH OF A GRAPH'S TEXT IS THAT GRAPH. -/
theorem parse_text {ix : List Bs → Bs → Option Nat} (hi : IxOk ix) {g : Gr} (I : g.In) (h : checkE g = 0) : parseV ix (textG g) = (g, 0, 0) := by
  obtain ⟨hs, hc, hl, ho, hh⟩ := check_parts h
  have nc := cl_nodup hc
  have nl := lo_nodup hl
  have no := oq_nodup ho
  have NC : ∀ x ∈ g.c, nameB x.n = true := fun x hx => by
    obtain ⟨k, hk, e⟩ := List.getElem_of_mem hx
    exact clE_parts (by rw [List.getElem?_eq_getElem hk, e]) (first_zero hc k hk)
  have NLp : ∀ (k : Nat) x, g.l[k]? = some x → nameB x.n = true ∧ -1 ≤ x.u ∧ x.u < k := fun k x hx => loE_parts hx (first_zero hl k (List.getElem?_eq_some_iff.1 hx).1)
  have NL : ∀ x ∈ g.l, nameB x.n = true := fun x hx => by
    obtain ⟨k, hk, e⟩ := List.getElem_of_mem hx
    exact (NLp k x (by rw [List.getElem?_eq_getElem hk, e])).1
  have OP : ∀ (k : Nat) x, g.o[k]? = some x → nameB x.n = true ∧ (1 ≤ x.k ∧ x.k ≤ 14) ∧ (-1 ≤ x.l ∧ x.l < g.l.length) ∧ (0 ≤ x.a ∧ x.a < g.c.length) ∧ whereB x.k x.l = true ∧ numsB x.k x.x x.y = true := fun k x hx => by
    obtain ⟨h1, h2⟩ := oq_parts h hx
    exact ⟨nameE_zero h1, opE_parts h2⟩
  have NO : ∀ x ∈ g.o, nameB x.n = true := fun x hx => by
    obtain ⟨k, hk, e⟩ := List.getElem_of_mem hx
    exact (OP k x (by rw [List.getElem?_eq_getElem hk, e])).1
  have gin : ∀ u : Int, ∀ c ∈ (if u < 0 then [45] else match g.l[u.toNat]? with | none => [] | some x => x.n : Bs), goodC c = true := fun u c hc => by
    split at hc
    · rw [List.mem_singleton] at hc
      rw [hc]
      rfl
    · split at hc
      · cases hc
      · rename_i x hx
        exact (good_name (NL x (List.mem_of_getElem? hx))).2 c hc
  have pin : ∀ u, PlainW (inW g u) := fun u => plain_front (by decide) (by decide) (gin u)
  have pc : ∀ x ∈ g.c, ∀ y ∈ clWords x, PlainW y := fun x hx y hy => by
    unfold clWords at hy
    simp only [List.mem_cons, List.not_mem_nil, or_false] at hy
    rcases hy with rfl | rfl | rfl
    · exact plain_lit (by decide) (by decide)
    · exact plain_name (NC x hx)
    · exact plain_front (by decide) (by decide) (good_itoa _ (I.c x hx))
  have pl : ∀ x ∈ g.l, ∀ y ∈ loWords g x, PlainW y := fun x hx y hy => by
    unfold loWords at hy
    simp only [List.mem_cons, List.not_mem_nil, or_false] at hy
    rcases hy with rfl | rfl | rfl | rfl
    · exact plain_lit (by decide) (by decide)
    · exact plain_name (NL x hx)
    · exact pin _
    · exact plain_front (by decide) (by decide) (good_itoa _ (I.l x hx).2)
  have po : ∀ x ∈ g.o, ∀ y ∈ oqWords g x, PlainW y := fun x hx y hy => by
    obtain ⟨k, hk, e⟩ := List.getElem_of_mem hx
    obtain ⟨a1, a2, a3, a4, -, -⟩ := OP k x (by rw [List.getElem?_eq_getElem hk, e])
    unfold oqWords at hy
    rcases List.mem_append.1 hy with hy | hy
    · simp only [List.mem_cons, List.not_mem_nil, or_false] at hy
      rcases hy with rfl | rfl | rfl | rfl | rfl
      · exact plain_lit (by decide) (by decide)
      · exact plain_name a1
      · exact plain_word _ a2.1 a2.2
      · exact pin _
      · refine plain_front (by decide) (by decide) fun c hc => ?_
        unfold nameC at hc
        split at hc
        · cases hc
        · rename_i z hz
          exact (good_name (NC z (List.mem_of_getElem? hz))).2 c hc
    · have hy := List.mem_of_mem_take hy
      simp only [List.mem_cons, List.not_mem_nil, or_false] at hy
      rcases hy with rfl | rfl
      · exact plain_front (by decide) (by decide) (good_itoa _ (I.o x hx).2.2.2.1)
      · exact plain_front (by decide) (by decide) (good_itoa _ (I.o x hx).2.2.2.2)
  have nameO_at : ∀ u : Int, 0 ≤ u → u < g.o.length → g.on[u.toNat]? = some (nameO g u) ∧ nameB (nameO g u) = true := fun u h0 h1 => by
    obtain ⟨x, hx⟩ : ∃ x, g.o[u.toNat]? = some x := ⟨_, List.getElem?_eq_getElem (by omega)⟩
    unfold nameO
    rw [List.getElem?_map, hx]
    exact ⟨rfl, NO x (List.mem_of_getElem? hx)⟩
  have ph : ∀ x ∈ g.h, ∀ y ∈ chWords g x, PlainW y := fun x hx y hy => by
    obtain ⟨b1, b2, b3, b4⟩ := ch_range h hx
    unfold chWords at hy
    simp only [List.mem_cons, List.not_mem_nil, or_false] at hy
    rcases hy with rfl | rfl | rfl | rfl
    · exact plain_lit (by decide) (by decide)
    · exact plain_name (nameO_at _ b1 b2).2
    · exact plain_lit (by decide) (by decide)
    · exact plain_name (nameO_at _ b3 b4).2
  have et : textG g = (((g.c.map fun x => Lib.join (clWords x) [32]) ++ ((g.l.map fun x => Lib.join (loWords g x) [32]) ++ ((g.o.map fun x => Lib.join (oqWords g x) [32]) ++ (g.h.map fun x => Lib.join (chWords g x) [32])))).map (· ++ [10])).flatten := by
    unfold textG sp
    simp only [List.map_append, List.map_map, List.flatten_append]
    rfl
  have el : linesL (textG g) = (g.c.map fun x => Lib.join (clWords x) [32]) ++ ((g.l.map fun x => Lib.join (loWords g x) [32]) ++ ((g.o.map fun x => Lib.join (oqWords g x) [32]) ++ ((g.h.map fun x => Lib.join (chWords g x) [32]) ++ []))) := by
    rw [et, lines_flat, List.append_nil]
    intro x hx
    simp only [List.mem_append, List.mem_map] at hx
    rcases hx with ⟨y, hy, rfl⟩ | ⟨y, hy, rfl⟩ | ⟨y, hy, rfl⟩ | ⟨y, hy, rfl⟩
    · exact line_nl _ (pc y hy)
    · exact line_nl _ (pl y hy)
    · exact line_nl _ (po y hy)
    · exact line_nl _ (ph y hy)
  unfold parseV
  rw [el]
  have s1 := seg (ix := ix) clWords ((g.l.map fun x => Lib.join (loWords g x) [32]) ++ ((g.o.map fun x => Lib.join (oqWords g x) [32]) ++ ((g.h.map fun x => Lib.join (chWords g x) [32]) ++ []))) g.c (fun k => ⟨g.c.take k, [], [], []⟩) 0 pc (fun k x hx => by
    obtain ⟨e1, e2⟩ := num_front kwWorkers x.w (I.c x (List.mem_of_getElem? hx))
    unfold lineF clWords
    dsimp only
    rw [if_pos rfl]
    unfold clF
    dsimp only
    rw [if_neg (by rw [show numE kwWorkers (kwWorkers ++ Lib.itoa x.w) = 0 from e1]; simp), show numV kwWorkers (kwWorkers ++ Lib.itoa x.w) = x.w from e2, take_snoc hx])
  have s2 := seg (ix := ix) (loWords g) ((g.o.map fun x => Lib.join (oqWords g x) [32]) ++ ((g.h.map fun x => Lib.join (chWords g x) [32]) ++ [])) g.l (fun k => ⟨g.c, g.l.take k, [], []⟩) (0 + g.c.length) pl (fun k x hx => by
    obtain ⟨e1, e2⟩ := num_front kwRounds x.r (I.l x (List.mem_of_getElem? hx)).2
    obtain ⟨a1, a2, a3⟩ := NLp k x hx
    have hk := (List.getElem?_eq_some_iff.1 hx).1
    obtain ⟨e3, e4⟩ := in_word hi (L := g.l) ((g.l.take k).map (·.n)) (by rw [take_names]; exact (List.take_sublist _ _).nodup nl) (fun j y hy => names_take hy) NL (g := g) rfl x.u a2 (by simp; omega) (by omega)
    unfold lineF loWords
    dsimp only
    rw [if_neg (by decide), if_pos rfl]
    unfold loF
    dsimp only
    rw [if_neg (by rw [show lpE ix ((g.l.take k).map (·.n)) (inW g x.u) = 0 from e3]; simp), if_neg (by rw [show numE kwRounds (kwRounds ++ Lib.itoa x.r) = 0 from e1]; simp), show numV kwRounds (kwRounds ++ Lib.itoa x.r) = x.r from e2, show lpV ix ((g.l.take k).map (·.n)) (inW g x.u) = x.u from e4, take_snoc hx])
  have s3 := seg (ix := ix) (oqWords g) ((g.h.map fun x => Lib.join (chWords g x) [32]) ++ []) g.o (fun k => ⟨g.c, g.l, g.o.take k, []⟩) (0 + g.c.length + g.l.length) po (fun k x hx => by
    obtain ⟨a1, a2, a3, a4, a5, a6⟩ := OP k x hx
    obtain ⟨-, ix1, ix2, ix3, ix4⟩ := I.o x (List.mem_of_getElem? hx)
    obtain ⟨e3, e4⟩ := in_word hi (L := g.l) g.ln nl (fun j y hy => .inl (by rw [List.getElem?_map, hy]; rfl)) NL (g := g) rfl x.l a3.1 (by simp; omega) (by omega)
    have hkd := kind_word x.k a2.1 a2.2
    obtain ⟨z, hz⟩ : ∃ z, g.c[x.a.toNat]? = some z := ⟨_, List.getElem?_eq_getElem (by omega)⟩
    have hnc : nameC g x.a = z.n := by unfold nameC; rw [hz]
    obtain ⟨e5, e6⟩ := pl_front (ix := ix) kwAt g.cn z.n (ix_here hi nc (k := x.a.toNat) (by rw [List.getElem?_map, hz]; rfl))
    obtain ⟨n1, n2⟩ := num_front kwA x.x ix3
    obtain ⟨m1, m2⟩ := num_front kwB x.y ix4
    obtain ⟨z1, z2⟩ := nums_zero a6 a2.1 a2.2
    have key : ∀ rest : List Bs, rest.length = moreK x.k → abE rest = 0 → aV rest = x.x → bV rest = x.y → opF ix ⟨g.c, g.l, g.o.take k, []⟩ ([111, 112] :: x.n :: wordB x.k :: inW g x.l :: (kwAt ++ z.n) :: rest) = (0, ⟨g.c, g.l, g.o.take (k + 1), []⟩) := fun rest hr h1 h2 h3 => by
      unfold opF
      dsimp only
      rw [hkd, if_neg (by rw [hr]; omega), if_neg (by rw [show lpE ix (g.l.map (·.n)) (inW g x.l) = 0 from e3]; simp), if_neg (by rw [show plE ix kwAt (g.c.map (·.n)) (kwAt ++ z.n) = 0 from e5]; simp), if_neg (by rw [h1]; simp), h2, h3, show lpV ix (g.l.map (·.n)) (inW g x.l) = x.l from e4, show plV ix kwAt (g.c.map (·.n)) (kwAt ++ z.n) = x.a.toNat from e6, take_snoc hx, show ((x.a.toNat : Nat) : Int) = x.a by omega]
    unfold oqWords
    rw [hnc]
    have hk2 : moreK x.k = 0 ∨ moreK x.k = 1 ∨ moreK x.k = 2 := by unfold moreK; split <;> (try split) <;> simp
    have hl : ∀ rest, lineF ix ⟨g.c, g.l, g.o.take k, []⟩ ([[111, 112], x.n, wordB x.k, inW g x.l, [97, 116, 61] ++ z.n] ++ rest) = opF ix ⟨g.c, g.l, g.o.take k, []⟩ ([111, 112] :: x.n :: wordB x.k :: inW g x.l :: (kwAt ++ z.n) :: rest) := fun rest => by
      unfold lineF
      rw [List.cons_append]
      dsimp only
      rw [if_neg (by decide), if_neg (by decide), if_pos rfl]
      rfl
    rw [hl]
    rcases hk2 with e | e | e
    · obtain ⟨y1, y2⟩ := z1 e
      rw [e]
      exact key _ (by rw [e]; rfl) rfl y1.symm y2.symm
    · rw [e]
      exact key _ (by rw [e]; rfl) n1 n2 (z2 e).symm
    · rw [e]
      refine key _ (by rw [e]; rfl) ?_ n2 ?_
      · show (if numE kwA (kwA ++ Lib.itoa x.x) ≠ 0 then _ else _) = _
        rw [if_neg (by rw [n1]; simp)]
        exact m1
      · show (if numE kwA (kwA ++ Lib.itoa x.x) ≠ 0 then _ else _) = _
        rw [if_neg (by rw [n1]; simp)]
        exact m2)
  have s4 := seg (ix := ix) (chWords g) [] g.h (fun k => ⟨g.c, g.l, g.o, g.h.take k⟩) (0 + g.c.length + g.l.length + g.o.length) ph (fun k x hx => by
    obtain ⟨b1, b2, b3, b4⟩ := ch_range h (List.mem_of_getElem? hx)
    obtain ⟨e1, e2⟩ := pl_front (ix := ix) [] g.on (nameO g x.f) (ix_here hi no (nameO_at _ b1 b2).1)
    obtain ⟨e3, e4⟩ := pl_front (ix := ix) [] g.on (nameO g x.t) (ix_here hi no (nameO_at _ b3 b4).1)
    rw [List.nil_append] at e1 e2 e3 e4
    unfold lineF chWords
    dsimp only
    rw [if_neg (by decide), if_neg (by decide), if_neg (by decide), if_pos rfl]
    unfold chF
    dsimp only
    rw [if_neg (by rw [show plE ix [] (g.o.map (·.n)) (nameO g x.f) = 0 from e1]; simp), if_neg (by simp), if_neg (by rw [show plE ix [] (g.o.map (·.n)) (nameO g x.t) = 0 from e3]; simp), show plV ix [] (g.o.map (·.n)) (nameO g x.f) = x.f.toNat from e2, show plV ix [] (g.o.map (·.n)) (nameO g x.t) = x.t.toNat from e4, take_snoc hx, show ((x.f.toNat : Nat) : Int) = x.f by omega, show ((x.t.toNat : Nat) : Int) = x.t by omega])
  simp only [List.take_zero, List.take_length] at s1 s2 s3 s4
  rw [show noG = (⟨[], [], [], []⟩ : Gr) from rfl, s1, s2, s3, s4]
  unfold parseF
  rw [show (⟨g.c, g.l, g.o, g.h⟩ : Gr) = g from rfl, if_neg (by rw [h]; simp)]
/-- What is read of a text is a graph with nothing wrong, or none. -/
theorem parse_ok {ix : List Bs → Bs → Option Nat} : ∀ (L : List Bs) (i : Nat) (g : Gr), (parseF ix L i g).2.2 = 0 → checkE (parseF ix L i g).1 = 0 ∧ (parseF ix L i g).2.1 = 0
  | [], i, g, h => by
    unfold parseF at h ⊢
    split
    · rename_i h1
      rw [if_pos h1] at h
      exact absurd h h1
    · rename_i h1
      exact ⟨by simpa using h1, rfl⟩
  | l :: r, i, g, h => by
    unfold parseF at h ⊢
    split
    · rename_i h1
      rw [if_pos h1] at h
      exact absurd h h1
    · rename_i h1
      rw [if_neg h1] at h
      exact parse_ok r (i + 1) _ h
theorem parse_bad {ix : List Bs → Bs → Option Nat} : ∀ (L : List Bs) (i : Nat) (g : Gr), (parseF ix L i g).2.2 ≠ 0 → (parseF ix L i g).1 = noG
  | [], i, g, h => by
    unfold parseF at h ⊢
    split
    · rfl
    · rename_i h1
      rw [if_neg h1] at h
      exact absurd rfl h
  | l :: r, i, g, h => by
    unfold parseF at h ⊢
    split
    · rfl
    · rename_i h1
      rw [if_neg h1] at h
      exact parse_bad r (i + 1) _ h
end Go.Proofs.YtpblpjopinllcaaGreatDoor.graph
set_option linter.unusedSimpArgs false
set_option linter.unusedVariables false
namespace Go.Proofs.YtpblpjopinllcaaGreatDoor.graph
open Go.Proofs.YtpblpjopinllcaaGreatDoor.words

theorem lines_len9 : ∀ (r w : Bs), (linesC w r).length ≤ r.length + 1
  | [], w => by unfold linesC; split <;> simp
  | c :: r, w => by
    unfold linesC
    split
    · have := lines_len9 r []
      simp
      omega
    · have := lines_len9 r (w ++ [c])
      simp
      omega
theorem lines_each : ∀ (r w : Bs), ∀ x ∈ linesC w r, x.length ≤ w.length + r.length
  | [], w, x, hx => by
    unfold linesC at hx
    split at hx
    · cases hx
    · rw [List.mem_singleton] at hx
      subst hx
      simp
  | c :: r, w, x, hx => by
    unfold linesC at hx
    split at hx
    · rcases List.mem_cons.1 hx with rfl | hx
      · simp
      · have := lines_each r [] x hx
        simp at this ⊢
        omega
    · have := lines_each r (w ++ [c]) x hx
      simp at this ⊢
      omega
theorem split_len9 : ∀ (r w : Bs), (splitC w r).length ≤ r.length + 1
  | [], w => by unfold splitC; split <;> simp
  | c :: r, w => by
    unfold splitC
    split
    · have := split_len9 r []
      split
      · simp; omega
      · simp; omega
    · split
      · simp
      · have := split_len9 r (w ++ [c])
        simp
        omega
theorem split_each : ∀ (r w : Bs), ∀ x ∈ splitC w r, x.length ≤ w.length + r.length
  | [], w, x, hx => by
    unfold splitC at hx
    split at hx
    · cases hx
    · rw [List.mem_singleton] at hx
      subst hx
      simp
  | c :: r, w, x, hx => by
    unfold splitC at hx
    split at hx
    · split at hx
      · have := split_each r [] x hx
        simp at this ⊢
        omega
      · rcases List.mem_cons.1 hx with rfl | hx
        · simp
        · have := split_each r [] x hx
          simp at this ⊢
          omega
    · split at hx
      · cases hx
      · have := split_each r (w ++ [c]) x hx
        simp at this ⊢
        omega
/-- So many parts at most; names that are not long; numbers that are numbers. -/
structure PG (m : Nat) (g : Gr) : Prop where
  len : g.c.length + g.l.length + g.o.length + g.h.length ≤ m
  c : ∀ x ∈ g.c, x.n.length ≤ 100000
  l : ∀ x ∈ g.l, x.n.length ≤ 100000
  o : ∀ x ∈ g.o, x.n.length ≤ 100000
  i : g.In
theorem pg_nil : PG 0 noG := ⟨by simp, (by simp), (by simp), (by simp), ⟨by simp, by simp, by simp, by simp⟩⟩
theorem PG.more {m n : Nat} {g : Gr} (h : PG m g) (hm : m ≤ n) : PG n g := ⟨Nat.le_trans h.len hm, h.c, h.l, h.o, h.i⟩
theorem numV_64 (f x : Bs) : I64 (numV f x) := by
  unfold numV
  split
  · exact sg_bounds _
  · exact ⟨by omega, by omega⟩
theorem plV_lt {ix : List Bs → Bs → Option Nat} (hi : IxOk ix) (f : Bs) (N : List Bs) (x : Bs) : plV ix f N x ≤ N.length := by
  unfold plV
  split
  · cases h : ix N (x.drop f.length) with
    | none => exact Nat.zero_le _
    | some k => exact Nat.le_of_lt (hi.lt h)
  · exact Nat.zero_le _
theorem plV_64 {ix : List Bs → Bs → Option Nat} (hi : IxOk ix) (f : Bs) (N : List Bs) (hN : N.length ≤ 1000000) (x : Bs) : I64 ((plV ix f N x : Nat) : Int) := by
  have := plV_lt hi f N x
  exact ⟨by omega, by omega⟩
theorem lpV_64 {ix : List Bs → Bs → Option Nat} (hi : IxOk ix) (N : List Bs) (hN : N.length ≤ 1000000) (x : Bs) : I64 (lpV ix N x) := by
  unfold lpV
  split
  · exact ⟨by omega, by omega⟩
  · exact plV_64 hi _ _ hN _
theorem aV_64 (l : List Bs) : I64 (aV l) := by
  unfold aV
  split
  · exact ⟨by omega, by omega⟩
  · exact numV_64 _ _
theorem bV_64 (l : List Bs) : I64 (bV l) := by
  unfold bV
  split
  · split
    · exact ⟨by omega, by omega⟩
    · exact numV_64 _ _
  · exact ⟨by omega, by omega⟩
theorem kindN_64 (x : Bs) : I64 ((kindN x : Nat) : Int) := by
  have : ∀ f k, k + f ≤ 15 → kindFrom x f k ≤ 14 := by
    intro f
    induction f with
    | zero => intro k _; exact Nat.zero_le _
    | succ f ih =>
      intro k hk
      unfold kindFrom
      split
      · omega
      · exact ih (k + 1) (by omega)
  have h := this 14 1 (by omega)
  unfold kindN
  exact ⟨by omega, by omega⟩
theorem all_snoc {α : Type} {L : List α} {P : α → Prop} {x : α} (h : ∀ y ∈ L, P y) (hx : P x) : ∀ y ∈ L ++ [x], P y := by
  intro y hy
  rcases List.mem_append.1 hy with hy | hy
  · exact h y hy
  · rw [List.mem_singleton] at hy
    exact hy ▸ hx
/-- A line adds one part at most. -/
theorem pg_line {ix : List Bs → Bs → Option Nat} (hi : IxOk ix) {m : Nat} (hm : m ≤ 100000) {g : Gr} (h : PG m g) {w : List Bs} (hw : ∀ x ∈ w, x.length ≤ 100000) (h0 : (lineF ix g w).1 = 0) : PG (m + 1) (lineF ix g w).2 := by
  have hlen := h.len
  unfold lineF at h0 ⊢
  split
  · exact h.more (by omega)
  · rename_i k r
    split
    · rename_i e
      unfold clF
      split
      · rename_i n x heq
        have hn : n.length ≤ 100000 := hw n (by rw [heq]; simp)
        split
        · exact h.more (by omega)
        · exact ⟨by simp; omega, all_snoc h.c hn, h.l, h.o, ⟨all_snoc h.i.c (numV_64 _ _), h.i.l, h.i.o, h.i.h⟩⟩
      · exact h.more (by omega)
    · split
      · unfold loF
        split
        · rename_i n x y heq
          have hn : n.length ≤ 100000 := hw n (by rw [heq]; simp)
          split
          · exact h.more (by omega)
          · split
            · exact h.more (by omega)
            · exact ⟨by simp; omega, h.c, all_snoc h.l hn, h.o, ⟨h.i.c, all_snoc h.i.l ⟨lpV_64 hi _ (by simp; omega) _, numV_64 _ _⟩, h.i.o, h.i.h⟩⟩
        · exact h.more (by omega)
      · split
        · unfold opF
          split
          · rename_i n q x y rest heq
            have hn : n.length ≤ 100000 := hw n (by rw [heq]; simp)
            split
            · exact h.more (by omega)
            · split
              · exact h.more (by omega)
              · split
                · exact h.more (by omega)
                · split
                  · exact h.more (by omega)
                  · exact ⟨by simp; omega, h.c, h.l, all_snoc h.o hn, ⟨h.i.c, h.i.l, all_snoc h.i.o ⟨kindN_64 _, lpV_64 hi _ (by simp; omega) _, plV_64 hi _ _ (by simp; omega) _, aV_64 _, bV_64 _⟩, h.i.h⟩⟩
          · exact h.more (by omega)
        · split
          · unfold chF
            split
            · rename_i a t b heq
              split
              · exact h.more (by omega)
              · split
                · exact h.more (by omega)
                · split
                  · exact h.more (by omega)
                  · exact ⟨by simp; omega, h.c, h.l, h.o, ⟨h.i.c, h.i.l, h.i.o, all_snoc h.i.h ⟨plV_64 hi _ _ (by simp; omega) _, plV_64 hi _ _ (by simp; omega) _⟩⟩⟩
            · exact h.more (by omega)
          · exact h.more (by omega)
theorem drop_at9 {L : List Bs} {i : Nat} {x : Bs} (h : L[i]? = some x) : L.drop i = x :: L.drop (i + 1) := by
  have hi := (List.getElem?_eq_some_iff.1 h).1
  rw [List.drop_eq_getElem_cons hi]
  rw [List.getElem?_eq_getElem hi] at h
  rw [Option.some.inj h]
theorem parse_step {ix : List Bs → Bs → Option Nat} {L : List Bs} {i : Nat} {l : Bs} {g : Gr} (h : L[i]? = some l) : parseF ix (L.drop i) i g = if (lineF ix g (splitL l)).1 ≠ 0 then (noG, (i : Int) + 1, (lineF ix g (splitL l)).1) else parseF ix (L.drop (i + 1)) (i + 1) (lineF ix g (splitL l)).2 := by
  rw [drop_at9 h]
  rfl
theorem parse_end {ix : List Bs → Bs → Option Nat} {L : List Bs} {g : Gr} : parseF ix (L.drop L.length) L.length g = if checkE g ≠ 0 then (noG, 0, checkE g) else (g, 0, 0) := by
  rw [List.drop_length]
  rfl
/-- What is read is a graph of numbers, its names not long. -/
theorem parse_pg {ix : List Bs → Bs → Option Nat} (hi : IxOk ix) : ∀ (L : List Bs) (i m : Nat) (g : Gr), m + L.length ≤ 100000 → (∀ x ∈ L, x.length ≤ 100000) → PG m g → PG (m + L.length) (parseF ix L i g).1
  | [], i, m, g, _, _, h => by
    unfold parseF
    split
    · exact pg_nil.more (by omega)
    · exact h
  | l :: r, i, m, g, hm, hl, h => by
    unfold parseF
    split
    · exact pg_nil.more (by omega)
    · rename_i h1
      have hl0 := hl l (by simp)
      have := parse_pg hi r (i + 1) (m + 1) (lineF ix g (splitL l)).2 (by simp at hm; omega) (fun x hx => hl x (by simp [hx])) (pg_line hi (by simp at hm; omega) h (fun x hx => by have := split_each l [] x hx; simp at this; omega) (by simpa using h1))
      exact this.more (by simp; omega)
theorem parseV_pg {ix : List Bs → Bs → Option Nat} (hi : IxOk ix) (s : Bs) (hs : s.length ≤ 50000) : PG 100000 (parseV ix s).1 := by
  have h1 := lines_len9 s []
  have := parse_pg hi (linesL s) 0 0 noG (by unfold linesL; omega) (fun x hx => by have := lines_each s [] x hx; simp at this; omega) pg_nil
  exact this.more (by unfold linesL; omega)
end Go.Proofs.YtpblpjopinllcaaGreatDoor.graph
