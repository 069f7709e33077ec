/-
  A map from keys to rows of values, as what records make of it.
-/
import Derived.Test.YtpbdfiddgbkkmaaDoorTot
import Derived.Maps.OwnRows
import Derived.Maps.GroupsBeside
import Derived.Maps.RangeWalk
import Derived.Maps.Views
namespace Go.Proofs.YtpbdfiddgbkkmaaDoor.oper
open Go.ChangeShapes Go.WideShapes Go.ChangeAt Go.RowKit Go.Maps Go.WideMaps
open Go.Proofs.YtpbdfiddgbkkmaaDoor.tm Go.Proofs.YtpbdfiddgbkkmaaDoor.opened Go.Proofs.YtpbdfiddgbkkmaaDoor.block Go.Proofs.YtpbdfiddgbkkmaaDoor.region Go.Proofs.YtpbdfiddgbkkmaaDoor.data

/-- The groups of records. -/
def gV (L : List Rc) : List (Int × List Int) := (keysS L).map fun q => (q, vals q L)
theorem mem_gV {L : List Rc} {p : Int × List Int} : p ∈ gV L ↔ (∃ r ∈ L, r.k = p.1) ∧ p.2 = vals p.1 L := by
  unfold gV
  rw [List.mem_map]
  constructor
  · rintro ⟨q, hq, rfl⟩
    exact ⟨mem_keysS.1 hq, rfl⟩
  · rintro ⟨h1, h2⟩
    exact ⟨p.1, mem_keysS.2 h1, by rw [← h2]⟩
theorem gV_apart (L : List Rc) : (gV L).Pairwise fun p q => p.1 ≠ q.1 := List.pairwise_map.2 ((keysS_rise L).imp fun h e => by simp only at e; omega)
theorem gV_pos {L : List Rc} {p : Int × List Int} (h : p ∈ gV L) : p.2 ≠ [] := by
  obtain ⟨⟨r, hr, hk⟩, e⟩ := mem_gV.1 h
  rw [e]
  exact vals_pos hr hk
theorem gV_next (L : List Rc) (x : Rc) : ((x.k, vals x.k L ++ [x.v]) :: (gV L).filter fun p => !decide (p.1 = x.k)).Perm (gV (L ++ [x])) := by
  have n1 : ((x.k, vals x.k L ++ [x.v]) :: (gV L).filter fun p => !decide (p.1 = x.k)).Nodup := by
    refine List.nodup_cons.2 ⟨fun h => ?_, ?_⟩
    · have := (List.mem_filter.1 h).2
      simp at this
    · exact ((gV_apart L).sublist List.filter_sublist).imp fun h e => h (by rw [e])
  have n2 : (gV (L ++ [x])).Nodup := (gV_apart _).imp fun h e => h (by rw [e])
  refine (List.perm_ext_iff_of_nodup n1 n2).2 fun p => ?_
  rw [mem_gV, List.mem_cons, List.mem_filter, mem_gV, vals_app, vals_one]
  obtain ⟨q, l⟩ := p
  simp only [Prod.mk.injEq, Bool.not_eq_true', decide_eq_false_iff_not]
  constructor
  · rintro (⟨rfl, rfl⟩ | ⟨⟨⟨r, hr, h1⟩, h2⟩, h3⟩)
    · exact ⟨⟨x, by simp, rfl⟩, by rw [if_pos rfl]⟩
    · refine ⟨⟨r, List.mem_append_left _ hr, h1⟩, ?_⟩
      rw [if_neg (fun e => h3 e.symm), List.append_nil]
      exact h2
  · rintro ⟨⟨r, hr, h1⟩, h2⟩
    by_cases e : x.k = q
    · subst e
      rw [if_pos rfl] at h2
      exact .inl ⟨rfl, h2⟩
    · rw [if_neg e, List.append_nil] at h2
      refine .inr ⟨⟨⟨r, ?_, h1⟩, h2⟩, fun h => e h.symm⟩
      rcases List.mem_append.1 hr with hr | hr
      · exact hr
      · have : r = x := by simpa using hr
        rw [this] at h1
        exact absurd h1 e
def kL (z : Int) : Lit := .int .i64 z
def dG (l : List Int) : DataW Nat := .slice (lits .i64 l) []
def pG (p : Int × List Int) : Lit × DataW Nat := (kL p.1, dG p.2)
theorem isKeyL (z : Int) : WideAt.IsKeyLit (kL z) := by simp [kL, WideAt.IsKeyLit]
theorem kL_inj {a b : Int} (h : kL a = kL b) : a = b := by simpa [kL] using h
theorem keyed64 : Keyed Tryd.prog 2 := int_keyed Tryd.underlying2
theorem wf64 {z : Int} (h : I64 z) : (Lit.int .i64 z).wf = true := WalkArith.wf_i64 ⟨h.1, h.2⟩
theorem keyOf64 {z : Int} (h : I64 z) : keyOf Tryd.prog 2 (.int .i64 z) = some (kL z) := keyOf_int_mk Tryd.underlying2 (wf64 h)
theorem zeroG (w : World) : (zeroValue 50).run Tryd.prog w = .ok (.slice none 0 0) w := by kernel_rfl
theorem lits_inj {a b : List Int} (h : lits (H := Nat) .i64 a = lits .i64 b) : a = b := by
  unfold lits at h
  exact (List.map_inj_right (fun x y hxy => by simpa using hxy)).1 h
theorem dG_inj {a b : List Int} (h : dG a = dG b) : a = b := lits_inj (by simpa [dG] using h)
abbrev Grp (w : World) (base b n : Nat) (D : DataW Nat) : Prop := w.ownsGroups Tryd.prog 2 base 2 .i64 b n D
/-- Block b is a map that holds the groups of records. -/
def OwnM (w : World) (base b : Nat) (L : List Rc) : Prop := ∃ es : List (Lit × DataW Nat), es.Perm ((gV L).map pG) ∧ Grp w base b L.length (.map es)
theorem ownM_made (w : World) : OwnM (w.alloc (.map #[] 0)) (w.heap.size + 1) w.heap.size [] := ⟨[], by simp [gV, keysS], World.ownsGroups_made w _ _ _ _⟩
theorem Grp.keptB {w w' : World} {base b n : Nat} {D : DataW Nat} (h : Grp w base b n D) (hb : Below w.heap.size w w') : Grp w' base b n D :=
  World.ownsGroups.kept h (grown_below (row := none) hb) (by simp) (fun es clock _ x _ => by
    cases x.val.ownBlock <;> simp)
theorem OwnM.keptB {w w' : World} {base b : Nat} {L : List Rc} (h : OwnM w base b L) (hb : Below w.heap.size w w') : OwnM w' base b L := by
  obtain ⟨es, hp, ho⟩ := h
  exact ⟨es, hp, ho.keptB hb⟩
theorem keys_es {es : List (Lit × DataW Nat)} {L : List Rc} (hp : es.Perm ((gV L).map pG)) : es.Pairwise fun p q => p.1 ≠ q.1 := by
  refine (hp.pairwise_iff (fun h e => h e.symm)).2 (List.pairwise_map.2 ((gV_apart L).imp fun h e => h (kL_inj e)))
theorem hasG {es : List (Lit × DataW Nat)} {L : List Rc} (hp : es.Perm ((gV L).map pG)) (q : Int) : Maps.has (.map es) (kL q) = decide (∃ r ∈ L, r.k = q) := by
  rw [has_eq]
  by_cases hc : ∃ r ∈ L, r.k = q
  · rw [decide_eq_true hc]
    exact List.any_eq_true.2 ⟨pG (q, vals q L), hp.mem_iff.2 (List.mem_map.2 ⟨_, mem_gV.2 ⟨hc, rfl⟩, rfl⟩), WideAt.sameKey_self (isKeyL q)⟩
  · rw [decide_eq_false hc]
    refine Bool.eq_false_iff.2 fun hany => hc ?_
    obtain ⟨z, hz, hs⟩ := List.any_eq_true.1 hany
    have e := (WideAt.sameKey_iff (isKeyL q)).1 hs
    obtain ⟨p, hpm, he⟩ := List.mem_map.1 (hp.mem_iff.1 hz)
    rw [← he] at e
    rw [← kL_inj e]
    exact (mem_gV.1 hpm).1
theorem atG {es : List (Lit × DataW Nat)} {L : List Rc} (hp : es.Perm ((gV L).map pG)) (q : Int) : (DataW.map es).atKey (kL q) .nil = if ∃ r ∈ L, r.k = q then dG (vals q L) else .nil := by
  by_cases hc : ∃ r ∈ L, r.k = q
  · rw [if_pos hc]
    exact WideAt.atKey_mem _ (isKeyL q) (keys_es hp) (hp.mem_iff.2 (List.mem_map.2 ⟨(q, vals q L), mem_gV.2 ⟨hc, rfl⟩, rfl⟩))
  · rw [if_neg hc, Maps.atKey_of_not_has (by rw [hasG hp q, decide_eq_false hc])]
/-- What a look-up finds. -/
theorem found_vals {w : World} {base : Nat} {es : List (Lit × DataW Nat)} {L : List Rc} (hp : es.Perm ((gV L).map pG)) {q : Int} {v : Value} {zs : List Int} (hat : (DataW.map es).atKey (kL q) .nil = rowDatum .i64 v zs) (ho : w.ownsInts base 2 .i64 v zs) : zs = vals q L := by
  rw [atG hp q] at hat
  by_cases hc : ∃ r ∈ L, r.k = q
  · rw [if_pos hc] at hat
    rcases ho.datum (H := Nat) with ⟨h1, h2⟩ | h1
    · rw [h1] at hat
      cases hat
    · rw [h1] at hat
      exact (dG_inj hat).symm
  · rw [if_neg hc] at hat
    rcases ho.datum (H := Nat) with ⟨h1, h2⟩ | h1
    · rw [h2, vals_none fun r hr e => hc ⟨r, hr, e⟩]
    · rw [h1] at hat
      cases hat
theorem strikeG {es : List (Lit × DataW Nat)} {S : List (Int × List Int)} (hp : es.Perm (S.map pG)) (q : Int) : (es.filter fun p => !p.1.sameKey (kL q)).Perm ((S.filter fun p => !decide (p.1 = q)).map pG) := by
  refine (hp.filter _).trans ?_
  rw [List.filter_map]
  refine List.Perm.of_eq (congrArg (List.map pG) (List.filter_congr fun s _ => ?_))
  show (!(kL s.1).sameKey (kL q)) = _
  by_cases he : s.1 = q
  · rw [he, WideAt.sameKey_self (isKeyL q)]; simp
  · rw [Maps.sameKey_ne (fun e => he (kL_inj e))]; simp [he]
theorem insert_permG (x : Lit × DataW Nat) : ∀ l, (DataW.insert x l).Perm (x :: l)
  | [] => by simp [DataW.insert]
  | y :: r => by
    unfold DataW.insert
    split
    · exact List.Perm.refl _
    · exact (List.Perm.cons y (insert_permG x r)).trans (List.Perm.swap x y r)
theorem putG {es : List (Lit × DataW Nat)} {L : List Rc} (hp : es.Perm ((gV L).map pG)) (x : Rc) : (DataW.insert (kL x.k, dG (vals x.k L ++ [x.v])) (es.filter fun p => !p.1.sameKey (kL x.k))).Perm ((gV (L ++ [x])).map pG) :=
  (insert_permG _ _).trans ((List.Perm.cons _ (strikeG hp x.k)).trans ((gV_next L x).map pG))
theorem back_later {w w' : World} {t : TypeId} {base b n : Nat} {D : DataW Nat} {key : Value} {kl : Lit} {v : Value} (h : w.groupBack Tryd.prog t 2 base 2 .i64 b n D key kl v) (hg : w.grownBy w' v.ownBlock) : w'.groupBack Tryd.prog t 2 base 2 .i64 b n D key kl v :=
  fun w1 v' zs' h1 h2 h3 h4 => h w1 v' zs' (hg.trans h1) h2 h3 (h4.imp id fun ⟨g, e, hge⟩ => ⟨g, e, Nat.le_trans hg.size hge⟩)
/-- The look-up has run: a slice of the key's values; the way back; it lies below a place. -/
def Looked (base b : Nat) (L : List Rc) (q : Int) (z : Nat) : Value → World → Prop := fun u w =>
  ∃ es : List (Lit × DataW Nat), es.Perm ((gV L).map pG) ∧ w.ownsInts base 2 .i64 u (vals q L) ∧ w.groupBack Tryd.prog 49 2 base 2 .i64 b L.length (.map es) (.int .i64 q) (kL q) u ∧ (∀ g, u.ownBlock = some g → g < z) ∧ b < base
theorem look_run {w w7 : World} {base b z : Nat} {L : List Rc} (h : OwnM w base b L) (hl : L.length ≤ 4096) (hs : w.Shuns b fun g => z ≤ g) (h7 : w7.heap[b]? = w.heap[b]?) {q : Int} (iq : I64 q) :
    ∃ v, (Instr.lookup 49 (.map (some b)) (.int .i64 q) false).run Tryd.prog w7 = .ok v w7 ∧ Looked base b L q z v w := by
  obtain ⟨es, hp, xs, clock, hb, F, hz, hD, hbb, hlen, hap⟩ := h
  have hkey := keyOf64 iq
  have hn : L.length < maxLen := by unfold maxLen; omega
  rcases Maps.fit_look false keyed64 Tryd.underlying49 (zeroG w7) (h7.trans hb) F hkey with ⟨hrun, _, hat⟩ | ⟨e0, y, hm0, h3, hrun, hR, hat, _⟩
  · have hoi := World.ownsInts_nil w base 2 .i64
    have hat' := hat .nil
    rw [← hD] at hat'
    have e := found_vals (v := .slice none 0 0) hp hat' hoi
    rw [e] at hoi
    refine ⟨.slice none 0 0, hrun, es, hp, hoi, ?_, (fun g hg => by cases hg), hbb⟩
    rw [hD]
    exact groups_back keyed64 Tryd.underlying49 hb F hz hn hbb hlen hap hkey (fun x _ _ => by cases x.val.ownBlock <;> simp [Value.ownBlock]) (by simp [Value.ownBlock])
  · obtain ⟨zs, ho, rfl⟩ := rowElem_inv hR
    have hat' := hat .nil
    rw [← hD] at hat'
    have e := found_vals hp hat' ho
    have ho2 := ho
    rw [e] at ho2
    refine ⟨e0.val, hrun, es, hp, ho2, ?_, fun g hg => Nat.lt_of_not_le (hs xs clock hb e0 hm0 g hg), hbb⟩
    rw [hD]
    exact groups_back keyed64 Tryd.underlying49 hb F hz hn hbb hlen hap hkey (fun x hx hne => hap x hx e0 hm0 (by rw [h3]; exact hne)) (fun e1 => by have := (ho.1.lt b e1).1; omega)
/-- The append has run. -/
def Joined (base b : Nat) (L : List Rc) (x : Rc) : Value → World → Prop := fun u w =>
  ∃ (wl : World) (v : Value) (es : List (Lit × DataW Nat)), es.Perm ((gV L).map pG) ∧ wl.groupBack Tryd.prog 49 2 base 2 .i64 b L.length (.map es) (.int .i64 x.k) (kL x.k) v ∧ wl.grownBy w v.ownBlock ∧
    w.ownsInts base 2 .i64 u (vals x.k L ++ [x.v]) ∧ (u.ownBlock = v.ownBlock ∨ ∃ g, u.ownBlock = some g ∧ wl.heap.size ≤ g)
theorem keeps_joined {base b : Nat} {L : List Rc} {x : Rc} : Keeps (Joined base b L x) := fun u _ _ hb ⟨wl, v, es, h1, h2, h3, h4, h5⟩ => ⟨wl, v, es, h1, h2, grown_run h3 hb, h4.kept (grown_below (row := none) hb) (by cases u.ownBlock <;> simp), h5⟩
theorem join_store {w : World} {base b : Nat} {L : List Rc} {x : Rc} {u : Value} (h : Joined base b L x u w) :
    ∃ w2, (Instr.mapUpdate 49 (.map (some b)) (.int .i64 x.k) u).run Tryd.prog w = .ok () w2 ∧ OwnM w2 base b (L ++ [x]) ∧ w.grownBy w2 (some b) := by
  obtain ⟨wl, v, es, h1, h2, h3, h4, h5⟩ := h
  obtain ⟨w2, hrun, hg, hgr⟩ := h2 w u _ h3 h4 (by rw [List.length_append]; have := vals_len x.k L; simp; omega) h5
  refine ⟨w2, hrun, ⟨_, putG h1 x, ?_⟩, hgr⟩
  rw [h4.datum_pos (by simp)] at hg
  rw [List.length_append]
  exact hg
end Go.Proofs.YtpbdfiddgbkkmaaDoor.oper
