/-
  What operators make of records, as mathematics: one by one, and by keys.
-/
import Derived.Test.YtpbdfiddgbkkmaaDoorDm
namespace Go.Proofs.YtpbdfiddgbkkmaaDoor.oper
open Go.Proofs.YtpbdfiddgbkkmaaDoor.tm Go.Proofs.YtpbdfiddgbkkmaaDoor.data

/-! ### One by one -/
def keepsB (k : Int) : Bool := decide (11 ≤ k ∧ k ≤ 14)
def w64 (n : Int) : Int := (n + 9223372036854775808) % 18446744073709551616 - 9223372036854775808
theorem w64_in (n : Int) : I64 (w64 n) := by unfold w64; constructor <;> omega
theorem w64_id {n : Int} (h : I64 n) : w64 n = n := by unfold w64; obtain ⟨h1, h2⟩ := h; omega
theorem w64_add (a b : Int) : w64 (w64 a + b) = w64 (a + b) := by unfold w64; omega
/-- What becomes of a record: nothing, or a record. -/
def oneV (k a b : Int) (x : Rc) : Option Rc :=
  if k = 3 then some ⟨x.k, w64 (w64 (a * x.v) + b)⟩
  else if k = 4 then (if 1 ≤ a ∧ x.v % a = b then some x else none)
  else if k = 5 then some ⟨x.v, x.k⟩
  else if k = 6 then (if 1 ≤ a then some ⟨x.v % a, x.v⟩ else none)
  else some x
theorem oneV_in {k a b : Int} {x y : Rc} (ha : a ≤ 9223372036854775807) (hx : x.In) (h : oneV k a b x = some y) : y.In := by
  obtain ⟨hk, hv⟩ := hx
  unfold oneV at h
  split at h
  · rw [← Option.some.inj h]; exact ⟨hk, w64_in _⟩
  · split at h
    · split at h
      · rw [← Option.some.inj h]; exact ⟨hk, hv⟩
      · cases h
    · split at h
      · rw [← Option.some.inj h]; exact ⟨hv, hk⟩
      · split at h
        · split at h
          · rename_i h1
            rw [← Option.some.inj h]
            have h2 := Int.emod_nonneg x.v (show a ≠ 0 by omega)
            have h3 := Int.emod_lt_of_pos x.v (show 0 < a by omega)
            exact ⟨⟨by show _ ≤ x.v % a; omega, by show x.v % a ≤ _; omega⟩, hv⟩
          · cases h
        · rw [← Option.some.inj h]; exact ⟨hk, hv⟩
def eachV (k a b : Int) (L : List Rc) : List Rc := L.filterMap (oneV k a b)
theorem eachV_len (k a b : Int) (L : List Rc) : (eachV k a b L).length ≤ L.length := List.length_filterMap_le _ _
theorem eachV_app (k a b : Int) (L M : List Rc) : eachV k a b (L ++ M) = eachV k a b L ++ eachV k a b M := by simp [eachV]
theorem eachV_in {k a b : Int} {L : List Rc} (ha : a ≤ 9223372036854775807) (h : InR L) : InR (eachV k a b L) := by
  intro y hy
  obtain ⟨x, hx, hxy⟩ := List.mem_filterMap.1 hy
  exact oneV_in ha (h x hx) hxy
theorem eachV_perm {k a b : Int} {L M : List Rc} (h : L.Perm M) : (eachV k a b L).Perm (eachV k a b M) := h.filterMap _
theorem each_yes {k a b : Int} {L : List Rc} {i : Nat} {x y : Rc} (hx : L[i]? = some x) (h : oneV k a b x = some y) : eachV k a b (L.take (i + 1)) = eachV k a b (L.take i) ++ [y] := by
  rw [take_next hx, eachV_app]
  simp [eachV, h]
theorem each_no {k a b : Int} {L : List Rc} {i : Nat} {x : Rc} (hx : L[i]? = some x) (h : oneV k a b x = none) : eachV k a b (L.take (i + 1)) = eachV k a b (L.take i) := by
  rw [take_next hx, eachV_app]
  simp [eachV, h]
/-! ### By keys -/
/-- The values of a key. -/
def vals (q : Int) (L : List Rc) : List Int := (L.filter fun r => r.k == q).map Rc.v
theorem vals_app (q : Int) (L M : List Rc) : vals q (L ++ M) = vals q L ++ vals q M := by simp [vals]
theorem vals_perm {q : Int} {L M : List Rc} (h : L.Perm M) : (vals q L).Perm (vals q M) := (h.filter _).map _
theorem vals_len (q : Int) (L : List Rc) : (vals q L).length ≤ L.length := by
  unfold vals
  rw [List.length_map]
  exact List.length_filter_le _ _
theorem mem_vals {q v : Int} {L : List Rc} : v ∈ vals q L ↔ (⟨q, v⟩ : Rc) ∈ L := by
  unfold vals
  simp only [List.mem_map, List.mem_filter, beq_iff_eq]
  constructor
  · rintro ⟨⟨k, u⟩, ⟨h1, h2⟩, h3⟩
    simp at h2 h3
    subst h2 h3
    exact h1
  · intro h
    exact ⟨_, ⟨h, rfl⟩, rfl⟩
theorem vals_none {q : Int} {L : List Rc} (h : ∀ r ∈ L, r.k ≠ q) : vals q L = [] := by
  refine List.eq_nil_iff_forall_not_mem.2 fun v hv => ?_
  exact h _ (mem_vals.1 hv) rfl
theorem vals_pos {q : Int} {L : List Rc} {r : Rc} (h : r ∈ L) (hq : r.k = q) : vals q L ≠ [] := by
  intro e
  have : r.v ∈ vals q L := mem_vals.2 (by rw [← hq]; exact h)
  rw [e] at this
  cases this
theorem vals_one (q : Int) (x : Rc) : vals q [x] = if x.k = q then [x.v] else [] := by
  unfold vals
  by_cases h : x.k = q
  · simp [h]
  · simp [h]
def leastV : List Int → Int
  | [] => 0
  | x :: r => r.foldl min x
def mostV : List Int → Int
  | [] => 0
  | x :: r => r.foldl max x
theorem foldl_min (l : List Int) : ∀ x, (l.foldl min x = x ∨ l.foldl min x ∈ l) ∧ l.foldl min x ≤ x ∧ ∀ v ∈ l, l.foldl min x ≤ v := by
  induction l with
  | nil => intro x; simp
  | cons y r ih =>
    intro x
    obtain ⟨h1, h2, h3⟩ := ih (min x y)
    simp only [List.foldl_cons, List.mem_cons]
    refine ⟨?_, by omega, ?_⟩
    · rcases h1 with h1 | h1
      · rw [h1]
        rcases Int.le_total x y with h | h
        · exact .inl (by omega)
        · exact .inr (.inl (by omega))
      · exact .inr (.inr h1)
    · rintro v (rfl | hv)
      · omega
      · exact h3 v hv
theorem foldl_max (l : List Int) : ∀ x, (l.foldl max x = x ∨ l.foldl max x ∈ l) ∧ x ≤ l.foldl max x ∧ ∀ v ∈ l, v ≤ l.foldl max x := by
  induction l with
  | nil => intro x; simp
  | cons y r ih =>
    intro x
    obtain ⟨h1, h2, h3⟩ := ih (max x y)
    simp only [List.foldl_cons, List.mem_cons]
    refine ⟨?_, by omega, ?_⟩
    · rcases h1 with h1 | h1
      · rw [h1]
        rcases Int.le_total x y with h | h
        · exact .inr (.inl (by omega))
        · exact .inl (by omega)
      · exact .inr (.inr h1)
    · rintro v (rfl | hv)
      · omega
      · exact h3 v hv
theorem least_is {l : List Int} (h : l ≠ []) : leastV l ∈ l ∧ ∀ v ∈ l, leastV l ≤ v := by
  match l, h with
  | x :: r, _ =>
    obtain ⟨h1, h2, h3⟩ := foldl_min r x
    refine ⟨?_, ?_⟩
    · rcases h1 with h1 | h1
      · simp [leastV, h1]
      · exact List.mem_cons_of_mem _ h1
    · intro v hv
      rcases List.mem_cons.1 hv with rfl | hv
      · exact h2
      · exact h3 v hv
theorem most_is {l : List Int} (h : l ≠ []) : mostV l ∈ l ∧ ∀ v ∈ l, v ≤ mostV l := by
  match l, h with
  | x :: r, _ =>
    obtain ⟨h1, h2, h3⟩ := foldl_max r x
    refine ⟨?_, ?_⟩
    · rcases h1 with h1 | h1
      · simp [mostV, h1]
      · exact List.mem_cons_of_mem _ h1
    · intro v hv
      rcases List.mem_cons.1 hv with rfl | hv
      · exact h2
      · exact h3 v hv
theorem least_eq {l : List Int} {m : Int} (h1 : m ∈ l) (h2 : ∀ v ∈ l, m ≤ v) : leastV l = m := by
  have h := least_is (l := l) (by rintro rfl; cases h1)
  have := h.2 m h1
  have := h2 _ h.1
  omega
theorem most_eq {l : List Int} {m : Int} (h1 : m ∈ l) (h2 : ∀ v ∈ l, v ≤ m) : mostV l = m := by
  have h := most_is (l := l) (by rintro rfl; cases h1)
  have := h.2 m h1
  have := h2 _ h.1
  omega
/-- What a kind that keeps makes of values. -/
def totV (k : Int) (l : List Int) : Int := if k = 12 then (l.length : Int) else if k = 13 then leastV l else if k = 14 then mostV l else w64 l.sum
theorem sum_perm {l m : List Int} (h : l.Perm m) : l.sum = m.sum := by
  induction h with
  | nil => rfl
  | cons _ _ ih => simp [ih]
  | swap x y l => simp; omega
  | trans _ _ h1 h2 => rw [h1, h2]
theorem tot_perm {k : Int} {l m : List Int} (h : l.Perm m) : totV k l = totV k m := by
  unfold totV
  by_cases hl : l = []
  · subst hl
    rw [h.symm.eq_nil]
  have hm : m ≠ [] := by rintro rfl; exact hl h.eq_nil
  rw [h.length_eq, sum_perm h]
  have e1 : leastV l = leastV m := least_eq (h.mem_iff.2 (least_is hm).1) fun v hv => (least_is hm).2 v (h.mem_iff.1 hv)
  have e2 : mostV l = mostV m := most_eq (h.mem_iff.2 (most_is hm).1) fun v hv => (most_is hm).2 v (h.mem_iff.1 hv)
  rw [e1, e2]
/-- The keys, rising. -/
def insK (x : Int) : List Int → List Int
  | [] => [x]
  | y :: r => if x < y then x :: y :: r else if x = y then y :: r else y :: insK x r
theorem mem_insK {x z : Int} : ∀ {l : List Int}, z ∈ insK x l ↔ z = x ∨ z ∈ l
  | [] => by simp [insK]
  | y :: r => by
    unfold insK
    split
    · simp
    · split
      · rename_i h; subst h; simp
      · simp only [List.mem_cons, mem_insK (l := r)]
        constructor
        · rintro (h | h | h) <;> simp [h]
        · rintro (h | h | h) <;> simp [h]
theorem insK_rise {x : Int} : ∀ {l : List Int}, l.Pairwise (· < ·) → (insK x l).Pairwise (· < ·)
  | [], _ => by simp [insK]
  | y :: r, h => by
    obtain ⟨h1, h2⟩ := List.pairwise_cons.1 h
    unfold insK
    split
    · rename_i hx
      refine List.pairwise_cons.2 ⟨fun z hz => ?_, h⟩
      rcases List.mem_cons.1 hz with rfl | hz
      · exact hx
      · have := h1 z hz; omega
    · split
      · exact h
      · refine List.pairwise_cons.2 ⟨fun z hz => ?_, insK_rise h2⟩
        rcases mem_insK.1 hz with rfl | hz
        · omega
        · exact h1 z hz
def keysS (L : List Rc) : List Int := L.foldr (fun r l => insK r.k l) []
theorem mem_keysS {q : Int} : ∀ {L : List Rc}, q ∈ keysS L ↔ ∃ r ∈ L, r.k = q
  | [] => by simp [keysS]
  | x :: r => by
    show q ∈ insK x.k (keysS r) ↔ _
    rw [mem_insK, mem_keysS]
    simp [eq_comm]
theorem keysS_rise : ∀ (L : List Rc), (keysS L).Pairwise (· < ·)
  | [] => List.Pairwise.nil
  | _ :: r => insK_rise (keysS_rise r)
theorem keysS_len : ∀ (L : List Rc), (keysS L).length ≤ L.length
  | [] => Nat.le_refl _
  | x :: r => by
    have h := keysS_len r
    have : ∀ l : List Int, (insK x.k l).length ≤ l.length + 1 := by
      intro l
      induction l with
      | nil => simp [insK]
      | cons y l ih => unfold insK; split; simp; split <;> simp <;> omega
    have := this (keysS r)
    simp only [List.length_cons]
    exact Nat.le_trans this (by omega)
def foldV (k : Int) (L : List Rc) : List Rc := (keysS L).map fun q => ⟨q, totV k (vals q L)⟩
/-- What makes a list the one that is asked. -/
structure IsF (k : Int) (L out : List Rc) : Prop where
  tot : ∀ r ∈ out, r.v = totV k (vals r.k L) ∧ ∃ x ∈ L, x.k = r.k
  all : ∀ x ∈ L, ∃ r ∈ out, r.k = x.k
theorem isF_fold (k : Int) (L : List Rc) : IsF k L (foldV k L) := by
  refine ⟨fun r hr => ?_, fun x hx => ?_⟩
  · obtain ⟨q, hq, rfl⟩ := List.mem_map.1 hr
    exact ⟨rfl, mem_keysS.1 hq⟩
  · exact ⟨_, List.mem_map.2 ⟨x.k, mem_keysS.2 ⟨x, hx, rfl⟩, rfl⟩, rfl⟩
theorem IsF.mem {k : Int} {L out : List Rc} (h : IsF k L out) (r : Rc) : r ∈ out ↔ r.v = totV k (vals r.k L) ∧ ∃ x ∈ L, x.k = r.k := by
  refine ⟨h.tot r, fun ⟨h1, x, hx, e⟩ => ?_⟩
  obtain ⟨s, hs, es⟩ := h.all x hx
  have h2 := (h.tot s hs).1
  have : s = r := by
    obtain ⟨a, b⟩ := s
    obtain ⟨c, d⟩ := r
    simp at *
    rw [e] at es
    subst es
    exact ⟨rfl, by rw [h2, h1]⟩
  rwa [← this]
theorem IsF.perm {k : Int} {L M out : List Rc} (h : IsF k L out) (hp : L.Perm M) : IsF k M out :=
  ⟨fun r hr => ⟨by rw [(h.tot r hr).1, tot_perm (vals_perm hp)], by obtain ⟨x, hx, e⟩ := (h.tot r hr).2; exact ⟨x, hp.mem_iff.1 hx, e⟩⟩, fun x hx => h.all x (hp.mem_iff.2 hx)⟩
theorem IsF.out_perm {k : Int} {L out out' : List Rc} (h : IsF k L out) (hp : out'.Perm out) : IsF k L out' :=
  ⟨fun r hr => h.tot r (hp.mem_iff.1 hr), fun x hx => by obtain ⟨r, hr, e⟩ := h.all x hx; exact ⟨r, hp.mem_iff.2 hr, e⟩⟩
abbrev Rise (out : List Rc) : Prop := out.Pairwise fun a b => a.k < b.k
abbrev Sole (out : List Rc) : Prop := out.Pairwise fun a b => a.k ≠ b.k
theorem fold_rise (k : Int) (L : List Rc) : Rise (foldV k L) := List.pairwise_map.2 (keysS_rise L)
theorem rise_srt {out : List Rc} (h : Rise out) : Srt out := h.imp fun hab => by rw [leR_iff]; exact .inl hab
theorem rise_sole {out : List Rc} (h : Rise out) : Sole out := h.imp fun hab => by omega
theorem sole_nodup {out : List Rc} (h : Sole out) : out.Nodup := h.imp fun hab e => hab (by rw [e])
theorem isF_eq {k : Int} {L M out : List Rc} (h : IsF k L out) (hs : Sole out) (hp : L.Perm M) : out.Perm (foldV k M) := by
  have hm := fun r => (h.perm hp).mem r
  refine (List.perm_ext_iff_of_nodup (sole_nodup hs) (sole_nodup (rise_sole (fold_rise k M)))).2 fun r => ?_
  rw [hm r, (isF_fold k M).mem r]
theorem isF_rise {k : Int} {L M out : List Rc} (h : IsF k L out) (hs : Rise out) (hp : L.Perm M) : out = foldV k M := by
  have := isF_eq h (rise_sole hs) hp
  rw [srt_uniq this (rise_srt hs)]
  exact (srt_uniq (List.Perm.refl _) (rise_srt (fold_rise k M))).symm
theorem fold_srt (k : Int) {L out : List Rc} (h : IsF k L out) (hs : Sole out) : srtR out = foldV k L := by
  have := isF_eq h hs (List.Perm.refl L)
  rw [srt_congr this]
  exact (srt_uniq (List.Perm.refl _) (rise_srt (fold_rise k L))).symm
theorem fold_perm {k : Int} {L M : List Rc} (h : L.Perm M) : foldV k L = foldV k M := isF_rise (isF_fold k L) (fold_rise k L) h
theorem fold_len (k : Int) (L : List Rc) : (foldV k L).length ≤ L.length := by
  unfold foldV
  rw [List.length_map]
  exact keysS_len L
theorem tot_in {k : Int} {l : List Int} (hl : l.length ≤ 1000000) (h : ∀ v ∈ l, I64 v) : I64 (totV k l) := by
  unfold totV
  split
  · constructor <;> omega
  · by_cases e : l = []
    · subst e
      split
      · decide
      · split
        · decide
        · exact w64_in _
    · split
      · exact h _ (least_is e).1
      · split
        · exact h _ (most_is e).1
        · exact w64_in _
theorem fold_in {k : Int} {L : List Rc} (hl : L.length ≤ 1000000) (h : InR L) : InR (foldV k L) := by
  intro r hr
  obtain ⟨q, hq, rfl⟩ := List.mem_map.1 hr
  obtain ⟨x, hx, rfl⟩ := mem_keysS.1 hq
  exact ⟨(h x hx).1, tot_in (Nat.le_trans (vals_len _ _) hl) fun v hv => (h _ (mem_vals.1 hv)).2⟩
/-! ### The document's way: a sorted list, record by record -/
def addV (k : Int) (u v : Int) : Int := if k = 12 then u + 1 else if k = 13 then u else if k = 14 then v else w64 (u + v)
theorem foldr_sum (l : List Int) (v : Int) : (l ++ [v]).sum = l.sum + v := by simp
theorem tot_one {k v : Int} (hv : I64 v) : totV k [v] = if k = 12 then 1 else v := by
  unfold totV leastV mostV
  simp [w64_id hv]
/-- A record more at a key that is there: it is not less than those before it. -/
theorem tot_more {k v : Int} {l : List Int} (hn : l ≠ []) (h : ∀ u ∈ l, u ≤ v) : totV k (l ++ [v]) = addV k (totV k l) v := by
  unfold addV
  by_cases h12 : k = 12
  · simp [totV, h12]
  by_cases h13 : k = 13
  · simp only [totV, h13, if_true]
    have hl := least_is hn
    refine least_eq (List.mem_append_left _ hl.1) fun u hu => ?_
    rcases List.mem_append.1 hu with hu | hu
    · exact hl.2 u hu
    · simp at hu
      rw [hu]
      exact h _ hl.1
  by_cases h14 : k = 14
  · simp only [totV, h14, if_true]
    refine most_eq (List.mem_append_right _ (by simp)) fun u hu => ?_
    rcases List.mem_append.1 hu with hu | hu
    · exact h u hu
    · simp at hu
      omega
  · simp only [totV, h12, h13, h14, if_false, foldr_sum, w64_add]
theorem isF_new {k : Int} {N out : List Rc} {x : Rc} (h : IsF k N out) (hr : Rise out) (hlt : ∀ y ∈ N, y.k < x.k) : IsF k (N ++ [x]) (out ++ [⟨x.k, totV k [x.v]⟩]) ∧ Rise (out ++ [⟨x.k, totV k [x.v]⟩]) := by
  refine ⟨⟨fun r hr' => ?_, fun y hy => ?_⟩, ?_⟩
  · rcases List.mem_append.1 hr' with hr' | hr'
    · obtain ⟨h1, y, hy, e⟩ := h.tot r hr'
      have : x.k ≠ r.k := by have := hlt y hy; omega
      refine ⟨?_, y, List.mem_append_left _ hy, e⟩
      rw [vals_app, vals_one, if_neg this, List.append_nil]
      exact h1
    · simp at hr'
      subst hr'
      refine ⟨?_, x, by simp, rfl⟩
      rw [vals_app, vals_one, if_pos rfl, vals_none fun r hr => by have := hlt r hr; show r.k ≠ x.k; omega]
      rfl
  · rcases List.mem_append.1 hy with hy | hy
    · obtain ⟨r, hr', e⟩ := h.all y hy
      exact ⟨r, List.mem_append_left _ hr', e⟩
    · have e : y = x := by simpa using hy
      rw [e]
      exact ⟨_, List.mem_append_right _ (List.mem_singleton.2 rfl), rfl⟩
  · rw [Rise, List.pairwise_append]
    refine ⟨hr, by simp, fun a ha b hb => ?_⟩
    simp at hb
    subst hb
    obtain ⟨-, y, hy, e⟩ := h.tot a ha
    have := hlt y hy
    show a.k < x.k
    omega
/-- The last one takes one more. -/
theorem isF_more {k : Int} {N out : List Rc} {x y r : Rc} {n : Nat} (h : IsF k N out) (hr : Rise out) (hs : Srt (N ++ [x])) (hy : y ∈ N) (hxy : y.k = x.k) (hn : out.length = n + 1) (hl : out[n]? = some r) :
    r.k = x.k ∧ IsF k (N ++ [x]) (out.set n ⟨r.k, addV k r.v x.v⟩) ∧ Rise (out.set n ⟨r.k, addV k r.v x.v⟩) := by
  have hle : ∀ z ∈ N, leR z x = true := fun z hz => (List.pairwise_append.1 hs).2.2 z hz x (by simp)
  have hrm : r ∈ out := List.mem_of_getElem? hl
  have hmax : ∀ s ∈ out, s.k ≤ r.k := by
    intro s hs'
    obtain ⟨i, hi⟩ := List.getElem?_of_mem hs'
    obtain ⟨hi1, hi2⟩ := List.getElem?_eq_some_iff.1 hi
    obtain ⟨hl1, hl2⟩ := List.getElem?_eq_some_iff.1 hl
    by_cases e : i = n
    · subst e
      rw [hi] at hl
      rw [Option.some.inj hl]
      exact Int.le_refl _
    · have := List.pairwise_iff_getElem.1 hr i n hi1 hl1 (by omega)
      rw [hi2, hl2] at this
      omega
  have hrk : r.k = x.k := by
    obtain ⟨s, hs1, hs2⟩ := h.all y hy
    have h1 := hmax s hs1
    obtain ⟨-, z, hz, e⟩ := h.tot r hrm
    have h2 := leR_iff.1 (hle z hz)
    omega
  have hv0 := (h.tot r hrm).1
  have hvl : vals r.k N ≠ [] := vals_pos hy (by rw [hrk, hxy])
  have hnew : addV k r.v x.v = totV k (vals r.k (N ++ [x])) := by
    rw [vals_app, vals_one, if_pos hrk.symm, tot_more hvl fun u hu => ?_, ← hv0]
    have h2 := leR_iff.1 (hle _ (mem_vals.1 hu))
    simp only at h2
    omega
  have hset : ∀ s, s ∈ out.set n ⟨r.k, addV k r.v x.v⟩ → s = ⟨r.k, addV k r.v x.v⟩ ∨ (s ∈ out ∧ s.k ≠ r.k) := by
    intro s hs'
    obtain ⟨i, hi⟩ := List.getElem?_of_mem hs'
    rw [List.getElem?_set] at hi
    by_cases e : n = i
    · rw [if_pos e, if_pos (by omega)] at hi
      exact .inl (Option.some.inj hi).symm
    · rw [if_neg e] at hi
      refine .inr ⟨List.mem_of_getElem? hi, ?_⟩
      obtain ⟨hi1, hi2⟩ := List.getElem?_eq_some_iff.1 hi
      obtain ⟨hl1, hl2⟩ := List.getElem?_eq_some_iff.1 hl
      have := List.pairwise_iff_getElem.1 hr i n hi1 hl1 (by omega)
      rw [hi2, hl2] at this
      omega
  refine ⟨hrk, ⟨fun s hs' => ?_, fun z hz => ?_⟩, ?_⟩
  · rcases hset s hs' with rfl | ⟨h1, h2⟩
    · exact ⟨hnew, x, by simp, hrk.symm⟩
    · obtain ⟨h3, z, hz, e⟩ := h.tot s h1
      refine ⟨?_, z, List.mem_append_left _ hz, e⟩
      rw [vals_app, vals_one, if_neg (by rw [← hrk]; exact fun e => h2 e.symm), List.append_nil]
      exact h3
  · have hin : (⟨r.k, addV k r.v x.v⟩ : Rc) ∈ out.set n ⟨r.k, addV k r.v x.v⟩ := List.mem_of_getElem? (i := n) (by rw [List.getElem?_set, if_pos rfl, if_pos (by omega)])
    rcases List.mem_append.1 hz with hz | hz
    · obtain ⟨s, hs1, hs2⟩ := h.all z hz
      obtain ⟨i, hi⟩ := List.getElem?_of_mem hs1
      by_cases e : n = i
      · subst e
        rw [hi] at hl
        rw [Option.some.inj hl] at hs2
        exact ⟨_, hin, hs2⟩
      · exact ⟨s, List.mem_of_getElem? (i := i) (by rw [List.getElem?_set, if_neg e]; exact hi), hs2⟩
    · simp at hz
      subst hz
      exact ⟨_, hin, hrk⟩
  · refine List.pairwise_iff_getElem.2 fun i j hi hj hij => ?_
    simp only [List.length_set] at hi hj
    have h1 := List.pairwise_iff_getElem.1 hr i j hi hj hij
    obtain ⟨hl1, hl2⟩ := List.getElem?_eq_some_iff.1 hl
    rw [List.getElem_set, List.getElem_set]
    split
    · split
      · omega
      · rename_i e1 e2; subst e1; rw [hl2] at h1; exact h1
    · split
      · rename_i e1 e2; subst e2; rw [hl2] at h1; exact h1
      · exact h1
theorem isF_nil (k : Int) : IsF k [] [] := ⟨fun r h => by simp at h, fun x h => by simp at h⟩
end Go.Proofs.YtpbdfiddgbkkmaaDoor.oper
