/-
  A range over the map of a Multi: the step.
  The contract of (*multi.Multi).Frontier.
-/
import Derived.Test.YtomekndinopoaaaJMuS
import Derived.Maps.RangeWalk
import Derived.Test.YtomekndinopoaaaJMi
namespace Go.Proofs.Ytomekndinopoaaa.multi
open Go.ChangeShapes Go.WideShapes Go.ChangeAt Go.RowKit Go.Maps Go.WideMaps
open Go.Proofs.Ytomekndinopoaaa.tm Go.Proofs.Ytomekndinopoaaa.opened Go.Proofs.Ytomekndinopoaaa.block Go.Proofs.Ytomekndinopoaaa.stamp Go.Proofs.Ytomekndinopoaaa.chain

theorem key_of_has {es : List (Lit × DataW Nat)} {M : List TN} (hp : es.Perm (M.map pE)) {kl : Lit} (h : Maps.has (.map es) kl = true) : ∃ p ∈ M, kl = kT p.1 := by
  rw [has_eq] at h
  obtain ⟨q, hq, hs⟩ := List.any_eq_true.1 h
  obtain ⟨p, hpm, he⟩ := List.mem_map.1 (hp.mem_iff.1 hq)
  refine ⟨p, hpm, ?_⟩
  rw [← WideAt.sameKey_eq hs, ← he]
  rfl
/-- The step over the map: nothing is left, or a pair that has not come yet. -/
theorem next_times {w : World} {ops : Array Oper} {rest : List Oper} {o : Oper} {a : Act} {Q : Exit → Act → World → Prop} (hg : o.guard = none) (it : Operand) (hop : o.op = Op.next it false)
    (b r n : Nat) {es : List (Lit × DataW Nat)} {d : Int} {M : List TN} (hp : es.Perm (M.map pE)) (ha : es.Pairwise (fun p q => p.1 ≠ q.1)) (G : GoodM d M) (left : Lit → Bool) (cnt : Nat)
    (hit : a.eval it = .pointer (some ⟨r, 0, none⟩)) (h : w.ranges Try.prog 33 (plainElem Try.prog 2) b r n (.map es) left cnt)
    (hDone : cnt = 0 → (∀ kl, left kl = false) → wpList Try.prog ops Q rest (a.put o.dst (.tuple #[.bool false])) w)
    (hMore : ∀ (p : TN), p ∈ M → left (kT p.1) = true → ∀ (w' : World) (cnt' : Nat), w'.ranges Try.prog 33 (plainElem Try.prog 2) b r n (.map es) (fun z => left z && !z.sameKey (kT p.1)) cnt' → cnt' < cnt →
      w.grownBy w' (some r) → w'.heap.size = w.heap.size → (Instr.entry (.pointer (some ⟨r, 0, none⟩))).run Try.prog w' = .ok (.tuple #[.agg #[.int .u32 p.1.e, .int .i64 p.1.d, .int .u32 p.1.a, .int .u32 p.1.b, .int .u32 p.1.c], .int .i64 p.2]) w' → wpList Try.prog ops Q rest (a.put o.dst (.tuple #[.bool true, .agg #[.int .u32 p.1.e, .int .i64 p.1.d, .int .u32 p.1.a, .int .u32 p.1.b, .int .u32 p.1.c], .int .i64 p.2])) w') :
    wpList Try.prog ops Q (o :: rest) a w := by
  refine wpList_plain hg fun K' hK' => ?_
  unfold Oper.wp
  rcases h.next keyT o.type with ⟨h0, hl, hrun⟩ | ⟨key, v, kl, y, w', cnt', hkey, hlk, hv, hat, hrun, hrg, hlt, hgr, hsz, hen⟩
  · simp [execOp, hop, hit, hrun, Result.andThen]
    exact hK' _ _ (hDone h0 hl)
  · obtain ⟨p, hpm, rfl⟩ := key_of_has hp (Maps.has_true_of_atKey hat)
    have i := G.inn p hpm
    have ek := keyT.inj hkey (keyOf_time p.1 i)
    subst ek
    obtain ⟨c, rfl, rfl, -⟩ := plainElem_int_inv Try.underlying2 hv
    have e := at_es hp ha G i
    rw [hat (dN 0), count_mem G.srt hpm] at e
    have : c = p.2 := by simpa [dN] using e
    subst this
    simp [execOp, hop, hit, hrun, Result.andThen]
    exact hK' _ _ (hMore p hpm hlk w' cnt' hrg hlt hgr hsz hen)
end Go.Proofs.Ytomekndinopoaaa.multi
namespace Go.Proofs.Ytomekndinopoaaa.multi
open Go.ChangeShapes Go.WideShapes Go.ChangeAt Go.RowKit Go.Maps Go.WideMaps
open Go.Proofs.Ytomekndinopoaaa.tm Go.Proofs.Ytomekndinopoaaa.opened Go.Proofs.Ytomekndinopoaaa.block Go.Proofs.Ytomekndinopoaaa.stamp Go.Proofs.Ytomekndinopoaaa.chain

/-- The times that are there and that have come already. -/
def come (M : List TN) (left : Lit → Bool) : List Tm := (M.filter fun p => !left (kT p.1) && decide (0 < p.2)).map (·.1)
def present (M : List TN) : List Tm := (M.filter fun p => decide (0 < p.2)).map (·.1)
theorem come_start {es : List (Lit × DataW Nat)} {d : Int} {M : List TN} (hp : es.Perm (M.map pE)) (G : GoodM d M) : come M (Maps.has (.map es)) = [] := by
  unfold come
  rw [List.map_eq_nil_iff, List.filter_eq_nil_iff]
  intro p hpm
  have : countM M p.1 ≠ 0 := (count_ne G p.1).2 ⟨p.2, hpm⟩
  rw [has_es hp G (G.inn p hpm), decide_eq_true this]
  simp
theorem come_end {M : List TN} {left : Lit → Bool} (h : ∀ kl, left kl = false) : come M left = present M := by
  unfold come present
  congr 1
  exact List.filter_congr fun p _ => by simp [h]
theorem come_step {d : Int} {M : List TN} (G : GoodM d M) {p : TN} (hp : p ∈ M) {left : Lit → Bool} (hl : left (kT p.1) = true) :
    (come M (fun z => left z && !z.sameKey (kT p.1))).Perm (if 0 < p.2 then come M left ++ [p.1] else come M left) := by
  obtain ⟨A, B, rfl⟩ := List.append_of_mem hp
  obtain ⟨s1, s2, s3⟩ := List.pairwise_append.1 G.srt
  have s2' := (List.pairwise_cons.1 s2).1
  have other : ∀ q : TN, q ∈ A ++ p :: B → q.1 ≠ p.1 → (kT q.1).sameKey (kT p.1) = false := fun q hq hne => Maps.sameKey_ne fun e => hne (kT_inj (G.inn q hq) (G.inn p hp) e)
  have fA : A.filter (fun q => !(left (kT q.1) && !(kT q.1).sameKey (kT p.1)) && decide (0 < q.2)) = A.filter (fun q => !left (kT q.1) && decide (0 < q.2)) := List.filter_congr fun q hq => by
    have : numT q.1 < numT p.1 := s3 q hq p (List.mem_cons_self ..)
    rw [other q (List.mem_append.2 (.inl hq)) (fun e => by rw [e] at this; omega)]
    simp
  have fB : B.filter (fun q => !(left (kT q.1) && !(kT q.1).sameKey (kT p.1)) && decide (0 < q.2)) = B.filter (fun q => !left (kT q.1) && decide (0 < q.2)) := List.filter_congr fun q hq => by
    have : numT p.1 < numT q.1 := s2' q hq
    rw [other q (List.mem_append.2 (.inr (List.mem_cons_of_mem _ hq))) (fun e => by rw [e] at this; omega)]
    simp
  unfold come
  rw [List.filter_append, List.filter_append, List.filter_cons, List.filter_cons, fA, fB]
  have hself := WideAt.sameKey_self (isKey p.1)
  simp only [hself, hl]
  by_cases h : 0 < p.2
  · rw [if_pos h]
    simp only [h, decide_true, Bool.not_true, Bool.and_false, Bool.not_false, Bool.and_true, if_true, Bool.false_eq_true, if_false, List.map_append, List.map_cons]
    exact List.perm_middle.trans (List.perm_append_singleton _ _).symm
  · rw [if_neg h]
    simp [h]
theorem size_alloc' (w : World) (o : Obj) : (w.alloc o).heap.size = w.heap.size + 1 := Array.size_push o
theorem OwnT_kept {w w' : World} {base r : Nat} {v : Value} {N : List Tm} (h : OwnT w base v N) (hg : w.grownBy w' (some r)) (hr : r < base) : OwnT w' base v N := by
  refine ⟨h.1, ?_⟩
  rcases h.2 with hn | ⟨g, cap, cur, hv, hg0, hg', rest⟩
  · exact .inl hn
  · exact .inr ⟨g, cap, cur, hv, hg0, (hg.block g (Array.getElem?_eq_some_iff.1 hg').1 (by simp; omega)).trans hg', rest⟩
theorem OwnT_apart {w : World} {base r : Nat} {v : Value} {N : List Tm} (h : OwnT w base v N) (hr : r < base) : some r ≠ v.ownBlock := by
  rcases h.2 with ⟨rfl, _⟩ | ⟨g, cap, cur, rfl, hb, _, _⟩
  · simp [Value.ownBlock]
  · simp [Value.ownBlock]
    omega
theorem come_len {d : Int} {M : List TN} (_G : GoodM d M) (left : Lit → Bool) : (come M left).length ≤ M.length := by
  unfold come
  rw [List.length_map]
  exact List.length_filter_le _ _
theorem come_in {d : Int} {M : List TN} (G : GoodM d M) {left : Lit → Bool} {N : List Tm} (h : N.Perm (come M left)) : InL N := by
  intro t ht
  obtain ⟨p, hp, rfl⟩ := List.mem_map.1 (h.mem_iff.1 ht)
  exact G.inn p (List.mem_filter.1 hp).1
set_option maxRecDepth 100000 in
theorem frontier_any {g b c : Nat} {d : Int} {A : Option Addr} {L : List Tm} {M : List TN} (G : GoodM d M) (hm : M.length ≤ 4096) (w : World) (h : MulP w g d b A c L M) :
    Calls Try.prog 33 #[.pointer (some ⟨g, 0, none⟩)] w fun e w' => ∃ (K : List Tm) (iK : InL K) (B : Option Addr) (c' : Nat), K.Perm (present M) ∧ e = .returned (.tuple #[.slice B (makeV K iK).length c', .int .i64 (makeE K iK)]) ∧ Lt w' B (makeV K iK) ∧ Below w.heap.size w w' := by
  obtain ⟨es, hp, ho⟩ := h.own
  obtain ⟨i0, hi, hz0, hz1, hz2⟩ := info_parts infoT
  have ha := Lib.hid (keys_apart ho)
  have hP := Lib.hid hp
  have hG := Lib.hid G
  have hblt := Lib.hid ho.lt
  have hst := Lib.hid (come_start hp G)
  have c1 : w.cell? ⟨g, 1, none⟩ = some (.map (some b)) := h.cells.read 1
  have f1 : w.frozen? ⟨g, 1, none⟩ = false := h.cells.soft 1
  clear h hp G
  go_enter Try.func33, Try.ntmps33
  go_wp2_with (first | (at_range; refine wpList_range_own _ rfl _ 72 rfl 33 2 keyT Try.underlying72 _ b M.length _ rfl ho ?_; intro w0 hrg0 hg0 hs0) | go_in)
  go_frame
  clear c1 f1 ho
  go_loopw [4, 5, 6] (fun v _ _ wr => ∃ (N : List Tm) (B : Option Addr) (c' : Nat) (left : Lit → Bool) (cnt : Nat), v = .slice B N.length c' ∧ wr.ranges Try.prog 33 (plainElem Try.prog 2) b w.heap.size M.length (.map es) left cnt ∧ Hid (N.Perm (come M left)) ∧ Hid (OwnT wr (w.heap.size + 1) (.slice B N.length c') N) ∧ Below w.heap.size w wr ∧ w.heap.size + 1 ≤ wr.heap.size) (fun _ _ _ wr => wr.rangeLeft b w.heap.size)
  case atStart => exact ⟨[], none, 0, _, _, rfl, hrg0, Lib.hid (by rw [hst.out]), Lib.hid (World.ownsRow_nil _ _ _ _), ⟨hg0.os, hg0.tape, hg0.output, hg0.size, fun k hk => hg0.block k hk (by simp)⟩, by omega⟩
  case round =>
    obtain ⟨N, B, c', left, cnt, rfl, hrg, HN, HO, hb, hsz⟩ := hrel
    go_wp2_with (first | (at_next; refine next_times rfl _ rfl b w.heap.size M.length hP.out ha.out hG.out left cnt rfl hrg ?_ ?_) | go_in)
    · intro _ hl0
      have HK : Hid (N.Perm (present M)) := Lib.hid (by rw [← come_end hl0]; exact HN.out)
      have IK := Lib.hid (come_in hG.out HN.out)
      have HL := HO.out.lies
      have hNl : N.length ≤ 4611686018427387903 := by
        have e1 := HN.out.length_eq
        have e2 := come_len hG.out left
        omega
      have C := Lib.hid (make_any B c' N IK.out hNl wr HL)
      clear HL hrg HN HO hNl hst
      go_wp2_with ((go_at_call 63; refine C.out.mono ?_; rintro e w6 ⟨E, c6, rfl, h6, b6⟩; have H6 := Lib.hid h6; have B6 := Lib.hid b6; clear h6 b6))
      go_ret2
      exact ⟨N, IK.out, E, c6, HK.out, rfl, H6.out, hb.trans (B6.out.mono hb.size)⟩
    · intro t n hpm hlk w1 cnt1 hrg1 hlt hg1 hs1 hen
      have HS := Lib.hid (come_step hG.out hpm hlk)
      have hr1 := Lib.hid hrg1
      have hm1 : Hid (wr.rangeLeft b w.heap.size = cnt) := Lib.hid hrg.left_eq
      have HO1 := Lib.hid (OwnT_kept HO.out hg1 (by omega))
      have hb1 : Below w.heap.size w w1 := hb.grown hg1 hb.size (fun k e => by cases e; exact Nat.le_refl _)
      have hsz1 : w.heap.size + 1 ≤ w1.heap.size := by omega
      have hb2 := hb1.alloc hb1.size (.cells (#[.int .u32 t.e, .int .i64 t.d, .int .u32 t.a, .int .u32 t.b, .int .u32 t.c]) 33)
      have HO2 := Lib.hid (HO1.out.below (fresh1 w1 (.cells (#[.int .u32 t.e, .int .i64 t.d, .int .u32 t.a, .int .u32 t.b, .int .u32 t.c]) 33)))
      have OZ := Whole.fresh w1 33 (#[.int .u32 t.e, .int .i64 t.d, .int .u32 t.a, .int .u32 t.b, .int .u32 t.c])
      have hr2 := Lib.hid (hr1.out.alloc (.cells (#[.int .u32 t.e, .int .i64 t.d, .int .u32 t.a, .int .u32 t.b, .int .u32 t.c]) 33))
      have hNl : N.length ≤ 4096 := by
        have e1 := HN.out.length_eq
        have e2 := come_len hG.out left
        omega
      have hsz2 : w.heap.size + 1 ≤ (w1.alloc (.cells (#[.int .u32 t.e, .int .i64 t.d, .int .u32 t.a, .int .u32 t.b, .int .u32 t.c]) 33)).heap.size := by rw [size_alloc']; omega
      clear hrg hrg1 HO HO1 hb hst hs1
      by_cases hpos : 0 < n
      · have HQ : Hid ((N ++ [t]).Perm (come M fun z => left z && !z.sameKey (kT t))) := Lib.hid ((HN.out.append_right _).trans (by have := HS.out; rw [if_pos hpos] at this; exact this.symm))
        go_upto_region 6 with fail
        change Code.wp _ _ _ _ (w1.alloc (.cells (#[.int .u32 t.e, .int .i64 t.d, .int .u32 t.a, .int .u32 t.b, .int .u32 t.c]) 33))
        generalize w1.alloc (.cells (#[.int .u32 t.e, .int .i64 t.d, .int .u32 t.a, .int .u32 t.b, .int .u32 t.c]) 33) = W6 at HO2 hr2 hb2 OZ hsz2 ⊢
        generalize w1.heap.size = gz at OZ ⊢
        obtain ⟨zc, zf⟩ := path.all_of OZ
        clear OZ hb1 hg1 hen
        go_wp2_with (at_builtin; refine wpList_append_own _ rfl _ _ 37 rfl (w.heap.size + 1) 33 i0 (.agg #[.int .u32 T0.e, .int .i64 T0.d, .int .u32 T0.a, .int .u32 T0.b, .int .u32 T0.c]) 5 32 Try.underlying37 hi hz0 hz1 hz2 rfl (by decide) _ _ _ rfl (HO2.out.below (fresh1 W6 (.cells (#[.int .u32 t.e, .int .i64 t.d, .int .u32 t.a, .int .u32 t.b, .int .u32 t.c]) 33))) ⟨_, 0, none⟩ 1 1 (cT t) rfl rfl (cells_new _ _ _) (one_cT t) (by simp [maxLen]; omega) (by omega) (by simp; omega) ?_; intro v' w5 hown' hgrow _; obtain ⟨g', cap', rfl⟩ := ownsRow_succ hown'; have b5 := HO2.out.grown hsz2 hgrow; have hr5 := Lib.hid ((hr2.out.alloc (.cells (#[.int .u32 t.e, .int .i64 t.d, .int .u32 t.a, .int .u32 t.b, .int .u32 t.c]) 33)).kept hgrow (OwnT_apart HO2.out (Nat.lt_succ_of_lt hblt.out)) (OwnT_apart HO2.out (Nat.lt_succ_self _))); have HO5 := Lib.hid hown'; clear hown' hgrow)
        go_roundw
        case rel => exact ⟨N ++ [t], some ⟨g', 0, none⟩, cap', _, cnt1, by rw [List.length_append]; rfl, hr5.out, HQ, Lib.hid (by have := HO5.out; simpa [OwnT] using this), hb2.trans (b5.mono (by omega)), by have := b5.size; omega⟩
        case measure => rw [hr5.out.left_eq, hm1.out]; exact hlt
      · have HQ : Hid (N.Perm (come M fun z => left z && !z.sameKey (kT t))) := Lib.hid (HN.out.trans (by have := HS.out; rw [if_neg hpos] at this; exact this.symm))
        clear OZ
        go_wp2_with fail
        go_roundw
        case rel => exact ⟨N, B, c', _, cnt1, rfl, hr2.out, HQ, HO2, hb2, hsz2⟩
        case measure => rw [hr2.out.left_eq, hm1.out]; exact hlt
end Go.Proofs.Ytomekndinopoaaa.multi
