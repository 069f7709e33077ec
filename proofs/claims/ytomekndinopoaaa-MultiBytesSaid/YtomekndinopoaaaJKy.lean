/-
  maps.Keys at times.
  slices.SortedFunc over the keys of a map of times.
-/
import Derived.Test.YtomekndinopoaaaJMuG
import Derived.Sort.MapsRangeIn
namespace Go.Proofs.Ytomekndinopoaaa.multi
open Go.ChangeShapes Go.WideShapes Go.ChangeAt Go.RowKit Go.Maps Go.WideMaps Go.Shelf
open Go.Proofs.Ytomekndinopoaaa.tm Go.Proofs.Ytomekndinopoaaa.opened Go.Proofs.Ytomekndinopoaaa.block Go.Proofs.Ytomekndinopoaaa.stamp Go.Proofs.Ytomekndinopoaaa.chain
attribute [local go_sem] Oper.semAt_some

/-- The times that have come already, whatever their number. -/
def comeA (M : List TN) (left : Lit → Bool) : List Tm := (M.filter fun p => !left (kT p.1)).map (·.1)
theorem comeA_start {es : List (Lit × DataW Nat)} {d : Int} {M : List TN} (hp : es.Perm (M.map pE)) (G : GoodM d M) : comeA M (Maps.has (.map es)) = [] := by
  unfold comeA
  rw [List.map_eq_nil_iff, List.filter_eq_nil_iff]
  intro p hpm
  have : countM M p.1 ≠ 0 := (count_ne G p.1).2 ⟨p.2, hpm⟩
  rw [has_es hp G (G.inn p hpm), decide_eq_true this]
  simp
theorem comeA_end {M : List TN} {left : Lit → Bool} (h : ∀ kl, left kl = false) : comeA M left = M.map (·.1) := by
  unfold comeA
  congr 1
  rw [List.filter_eq_self]
  intro p _
  simp [h]
theorem comeA_step {d : Int} {M : List TN} (G : GoodM d M) {p : TN} (hp : p ∈ M) {left : Lit → Bool} (hl : left (kT p.1) = true) :
    (comeA M (fun z => left z && !z.sameKey (kT p.1))).Perm (comeA M left ++ [p.1]) := by
  obtain ⟨A, B, rfl⟩ := List.append_of_mem hp
  obtain ⟨s1, s2, s3⟩ := List.pairwise_append.1 G.srt
  have s2' := (List.pairwise_cons.1 s2).1
  have other : ∀ q : TN, q ∈ A ++ p :: B → q.1 ≠ p.1 → (kT q.1).sameKey (kT p.1) = false := fun q hq hne => Maps.sameKey_ne fun e => hne (kT_inj (G.inn q hq) (G.inn p hp) e)
  have fA : A.filter (fun q => !(left (kT q.1) && !(kT q.1).sameKey (kT p.1))) = A.filter (fun q => !left (kT q.1)) := List.filter_congr fun q hq => by
    have : numT q.1 < numT p.1 := s3 q hq p (List.mem_cons_self ..)
    rw [other q (List.mem_append.2 (.inl hq)) (fun e => by rw [e] at this; omega)]
    simp
  have fB : B.filter (fun q => !(left (kT q.1) && !(kT q.1).sameKey (kT p.1))) = B.filter (fun q => !left (kT q.1)) := List.filter_congr fun q hq => by
    have : numT p.1 < numT q.1 := s2' q hq
    rw [other q (List.mem_append.2 (.inr (List.mem_cons_of_mem _ hq))) (fun e => by rw [e] at this; omega)]
    simp
  unfold comeA
  rw [List.filter_append, List.filter_append, List.filter_cons, List.filter_cons, fA, fB]
  have hself := WideAt.sameKey_self (isKey p.1)
  simp only [hself, hl]
  simp only [Bool.not_true, Bool.and_false, Bool.not_false, if_true, Bool.false_eq_true, if_false, List.map_append, List.map_cons]
  exact List.perm_middle.trans (List.perm_append_singleton _ _).symm
theorem comeA_len (M : List TN) (left : Lit → Bool) : (comeA M left).length ≤ M.length := by
  unfold comeA
  rw [List.length_map]
  exact List.length_filter_le _ _
/-- The step over the map, inside a fence. -/
theorem next_times_in {F : Fence} {n' : Nat} {w : World} {ops : Array Oper} {rest : List Oper} {o : Oper} {a : Act} {Q : Exit → Act → World → Prop} (hg : o.guard = none) (it : Operand) (hop : o.op = Op.next it false)
    (b r n : Nat) {es : List (Lit × DataW Nat)} {d : Int} {M : List TN} (hp : es.Perm (M.map pE)) (ha : es.Pairwise (fun p q => p.1 ≠ q.1)) (G : GoodM d M) (left : Lit → Bool) (cnt : Nat)
    (hit : a.eval it = .pointer (some ⟨r, 0, none⟩)) (h : w.ranges Try.prog 33 (plainElem Try.prog 2) b r n (.map es) left cnt)
    (hDone : cnt = 0 → (∀ kl, left kl = false) → wpListIn F n' Try.prog ops Q rest (a.put o.dst (.tuple #[.bool false])) w)
    (hMore : ∀ (p : TN), p ∈ M → left (kT p.1) = true → ∀ (w' : World) (cnt' : Nat), w'.ranges Try.prog 33 (plainElem Try.prog 2) b r n (.map es) (fun z => left z && !z.sameKey (kT p.1)) cnt' → cnt' < cnt →
      w.grownBy w' (some r) → w'.heap.size = w.heap.size → (Instr.entry (.pointer (some ⟨r, 0, none⟩))).run Try.prog w' = .ok (.tuple #[.agg #[.int .u32 p.1.e, .int .i64 p.1.d, .int .u32 p.1.a, .int .u32 p.1.b, .int .u32 p.1.c], .int .i64 p.2]) w' → wpListIn F n' Try.prog ops Q rest (a.put o.dst (.tuple #[.bool true, .agg #[.int .u32 p.1.e, .int .i64 p.1.d, .int .u32 p.1.a, .int .u32 p.1.b, .int .u32 p.1.c], .int .i64 p.2])) w') :
    wpListIn F n' Try.prog ops Q (o :: rest) a w := by
  refine wpListIn_plain hg fun K' hK' => ?_
  unfold Oper.wpIn
  refine ⟨by simp [Oper.about, hop], ?_⟩
  rw [Oper.semAt_plain F _ _ (by rw [hop]; intro c hc'; cases hc')]
  rcases h.next keyT o.type with ⟨h0, hl, hrun⟩ | ⟨key, v, kl, y, w', cnt', hkey, hlk, hv, hat, hrun, hrg, hlt, hgr, hsz, hen⟩
  · simp [execOp, hop, hit, hrun, Result.andThen]
    exact hK' _ _ (hDone h0 hl)
  · obtain ⟨p, hpm, rfl⟩ := key_of_has hp (Maps.has_true_of_atKey hat)
    have i := G.inn p hpm
    have ek := keyT.inj hkey (keyOf_time p.1 i)
    subst ek
    obtain ⟨c, rfl, rfl, -⟩ := plainElem_int_inv Try.underlying2 hv
    have e := at_es hp ha G i
    rw [hat (dN 0), count_mem G.srt hpm] at e
    have : c = p.2 := by simpa [dN] using e
    subst this
    simp [execOp, hop, hit, hrun, Result.andThen]
    exact hK' _ _ (hMore p hpm hlk w' cnt' hrg hlt hgr hsz hen)
/-- What a round keeps: what lies below, maps and their walks. -/
def KB (n₀ : Nat) (A B : World) : Prop := Below n₀ A B ∧ KeepsWalks A B
theorem KB.trans {n₀ : Nat} {A B C : World} (h : KB n₀ A B) (k : KB n₀ B C) : KB n₀ A C := ⟨h.1.trans k.1, h.2.trans k.2⟩
set_option maxRecDepth 100000 in
set_option maxHeartbeats 2000000 in
/-- maps.Keys's closure: each time once, in some order. -/
theorem keys1 (F : Fence) (n : Nat) (h7 : F.fn 79) (hro : F.round = none) (hn : 1 ≤ n) (l Bm n₀ b : Nat) {d : Int} {M : List TN} (G : GoodM d M) (J Jx : List TI → World → Prop)
    (hY : ∀ (pre : List TI) (x : TI) (W : World), J pre W → pre.length < M.length → YieldAt F (n - 1) Try.prog l #[.agg (chain.encI x).toArray] W fun e W' =>
      (e = .returned (.bool true) ∧ J (pre ++ [x]) W' ∧ KB n₀ W W') ∨ (e = .returned (.bool false) ∧ Jx (pre ++ [x]) W'))
    (W : World) (hJ : AbidesFrom W.heap.size J) (hBm : W.cell? ⟨Bm, 0, none⟩ = some (.map (some b))) (h : OwnM W b M) (h0 : J [] W) :
    CallsIn F n Try.prog 79 #[.func (.yield l) #[] #[], .pointer (some ⟨Bm, 0, none⟩)] W fun e W' => (∃ v, e = .returned v) ∧
      ((∃ ys : List TI, (ys.map (·.1)).Perm (M.map (·.1)) ∧ J ys W') ∨ (∃ pre : List TI, True ∧ Jx pre W')) := by
  obtain ⟨es, hp, ho⟩ := h
  have ha := Lib.hid (keys_apart ho)
  have hP := Lib.hid hp
  have hG := Lib.hid G
  have hst := Lib.hid (comeA_start hp G)
  clear hp G
  refine callsIn_of_wp Try.func79 rfl h7 ?_ hro
  simp only [Try.ntmps79, List.size_toArray, List.length_cons, List.length_nil, Nat.reduceAdd, Nat.reduceSub, Array.replicate_succ, Array.replicate_zero, List.push_toArray, List.append_toArray, List.nil_append, List.cons_append]
  gi_wp2_with (first
    | (gi_at_range; refine wpListIn_range_own _ rfl _ 72 rfl 33 2 keyT Try.underlying72 _ b M.length _ rfl ho ?_; intro w0 hrg0 hg0 hs0)
    | gi_in)
  go_frame
  gi_loopw [3] (fun _ wr => ∃ (left : Lit → Bool) (cnt : Nat) (ss : List TI), wr.ranges Try.prog 33 (plainElem Try.prog 2) b W.heap.size M.length (.map es) left cnt ∧ Hid ((ss.map (·.1)).Perm (comeA M left)) ∧ J ss wr)
    (fun _ wr => wr.rangeLeft b W.heap.size)
  case atStart => exact ⟨_, _, [], hrg0, Lib.hid (by rw [hst.out]; exact List.Perm.refl _), hJ [] W w0 none h0 hg0 (fun r e => by cases e)⟩
  case round =>
    obtain ⟨left, cnt, ss, hrg, hC, hJs⟩ := hrel
    gi_wp2_with (first
      | (gi_at_next; refine next_times_in rfl _ rfl b W.heap.size M.length hP.out ha.out hG.out left cnt rfl hrg ?_ ?_)
      | gi_in)
    · intro hc0 hl0
      gi_wp2
      go_end0
      exact ⟨⟨_, rfl⟩, .inl ⟨ss, by rw [← comeA_end hl0]; exact hC.out, hJs⟩⟩
    · intro t tn hpm hlk w2 cnt2 hrg2 hlt hg2 hs2 hen
      have HS := Lib.hid (comeA_step hG.out hpm hlk)
      have i := hG.out.inn (t, tn) hpm
      have hJ2 : J ss w2 := hJ ss wr w2 (some W.heap.size) hJs hg2 (fun r e => by cases e; exact ⟨Nat.le_refl _, hrg.iter_walk⟩)
      have hl : ss.length < M.length := by
        have e1 := HS.out.length_eq
        have e2 := comeA_len M (fun z => left z && !z.sameKey (kT t))
        have e3 := hC.out.length_eq
        simp at e1 e3
        omega
      have hx : ∃ x : TI, x.1 = t := ⟨⟨t, i⟩, rfl⟩
      obtain ⟨x, hx⟩ := hx
      have hJ3 := hJ _ _ _ none hJ2 (World.grownBy_alloc w2 (.cells #[.int .u32 x.1.e, .int .i64 x.1.d, .int .u32 x.1.a, .int .u32 x.1.b, .int .u32 x.1.c] 33) none) (fun r e => by cases e)
      obtain ⟨fn, tmps, assign, body, hy, hR⟩ := hY ss x _ hJ3 hl
      simp only [chain.encI, cT] at hy hR
      have HC : Hid (((ss ++ [x]).map (·.1)).Perm (comeA M fun z => left z && !z.sameKey (kT t))) := Lib.hid (by rw [List.map_append, List.map_cons, List.map_nil, hx]; exact (hC.out.append_right _).trans HS.out.symm)
      have hm : Hid (wr.rangeLeft b W.heap.size = cnt) := Lib.hid hrg.left_eq
      have hrg3 := Lib.hid (hrg2.alloc (.cells #[.int .u32 x.1.e, .int .i64 x.1.d, .int .u32 x.1.a, .int .u32 x.1.b, .int .u32 x.1.c] 33))
      clear HS hrg hrg2 hs2 hC
      subst hx
      gi_wp2
      refine hR.mono ?_
      rintro e W3 (⟨rfl, hJ4, hk4⟩ | ⟨rfl, hJx4⟩)
      · gi_wp2
        have hrg4 := hrg3.out.of_walks hk4.2
        go_roundw
        case rel => exact ⟨_, cnt2, ss ++ [x], hrg4, HC, hJ4⟩
        case measure => rw [hrg4.left_eq, hm.out]; exact hlt
      · gi_wp2
        refine bodyPost_ret (results_none rfl _ _ _) rfl ?_
        exact ⟨⟨_, rfl⟩, .inr ⟨_, trivial, hJx4⟩⟩
theorem keys_call (mb : Option Nat) (w : World) :
    Calls Try.prog 61 #[.map mb] w fun e w' => e = .returned (.func (.func 79) #[] #[.pointer (some ⟨w.heap.size, 0, none⟩)]) ∧ w' = w.alloc (.cells #[.map mb] 72) := by
  go_enter Try.func61, Try.ntmps61
  go_wp2
  go_ret
  exact ⟨rfl, rfl⟩
/-- What maps.Keys hands back gives the times, each once. -/
theorem keys_stops (F : Fence) (n : Nat) (h7 : F.fn 79) (hro : F.round = none) (hn : 1 ≤ n) (Bm b : Nat) {d : Int} {M : List TN} (G : GoodM d M) (w : World) (hBm : Bm < w.heap.size)
    (hc : w.cell? ⟨Bm, 0, none⟩ = some (.map (some b))) (h : OwnM w b M) :
    SeqStopsK F n Try.prog 79 #[.pointer (some ⟨Bm, 0, none⟩)] (fun x : TI => #[.agg #[.int .u32 x.1.e, .int .i64 x.1.d, .int .u32 x.1.a, .int .u32 x.1.b, .int .u32 x.1.c]]) (KB w.heap.size) (fun ys => (ys.map (·.1)).Perm (M.map (·.1))) (fun _ => True) M.length w := fun l J Jx W hW hJ _ hY h0 =>
  keys1 F n h7 hro hn l Bm w.heap.size b G J Jx hY W hJ ((hW.cell (p := ⟨Bm, 0, none⟩) hBm).trans hc) (h.below hW h.lt) h0
theorem map_val_inj : ∀ {a b : List TI}, a.map (·.1) = b.map (·.1) → a = b
  | [], [], _ => rfl
  | [], _ :: _, h => by simp at h
  | _ :: _, [], h => by simp at h
  | x :: r, y :: s, h => by
    simp only [List.map_cons, List.cons.injEq] at h
    rw [Subtype.ext h.1, map_val_inj h.2]
theorem srt_keys {d : Int} {M : List TN} (G : GoodM d M) {ys : List TI} (hp : (ys.map (·.1)).Perm (M.map (·.1))) : (srt ys).map (·.1) = M.map (·.1) := by
  have iM : InL (M.map (·.1)) := fun t ht => by obtain ⟨p, hp, rfl⟩ := List.mem_map.1 ht; exact G.inn p hp
  have iy : InL (ys.map (·.1)) := fun t ht => iM t (hp.mem_iff.1 ht)
  have e : tis (ys.map (·.1)) iy = ys := by
    exact map_val_inj (tis_val _ _)
  have e2 : (srt ys).map (·.1) = srtL (ys.map (·.1)) iy := by unfold srtL; rw [e]
  rw [e2]
  refine sorted_one ((srt_perm _ iy).trans hp) (in_srt _ iy) (srt_sorted _ iy) ?_
  rw [List.pairwise_map]
  exact G.srt.imp fun h => Int.le_of_lt h
end Go.Proofs.Ytomekndinopoaaa.multi
namespace Go.Proofs.Ytomekndinopoaaa.multi
open Go.ChangeShapes Go.WideShapes Go.ChangeAt Go.RowKit Go.Maps Go.WideMaps Go.Shelf
open Go.Proofs.Ytomekndinopoaaa.tm Go.Proofs.Ytomekndinopoaaa.opened Go.Proofs.Ytomekndinopoaaa.block Go.Proofs.Ytomekndinopoaaa.stamp Go.Proofs.Ytomekndinopoaaa.chain
attribute [local go_sem] Oper.semAt_some

set_option maxRecDepth 100000 in
set_option maxHeartbeats 2000000 in
theorem appendSeqK (F : Fence) (n : Nat) (hf : F.fn 93) (gf : Nat) (lb : Array Value) (hg : F.fn gf) (eg : ∀ args w, (callFunc gf args).run Try.prog w = .ok (.enter gf args) w) (hro : F.round = none) (hn : 3 ≤ n) (N : Nat) (hlen : N ≤ 4096) (S Sp : List TI → Prop) (w : World)
    (hs : SeqStopsK F (n - 1) Try.prog gf lb (fun x : TI => #[.agg #[.int .u32 x.1.e, .int .i64 x.1.d, .int .u32 x.1.a, .int .u32 x.1.b, .int .u32 x.1.c]]) (KB w.heap.size) S Sp N w) :
    CallsIn F n Try.prog 93 #[.slice none 0 0, .func (.func gf) #[] lb] w fun e W' => ∃ (v : Value) (M : List TI), e = .returned v ∧ S M ∧ W'.ownsRow w.heap.size 33 5 v M.length (M.flatMap chain.encI) ∧ Below w.heap.size w W' := by
  have h1 : 1 ≤ n := by omega
  obtain ⟨i0, hi, hz0, hz1, hz2⟩ := info_parts infoT
  refine callsIn_of_wp_marks Try.func93 rfl hf ?_ hro
  simp only [Try.ntmps93, List.size_toArray, List.length_cons, List.length_nil, Nat.reduceAdd, Nat.reduceSub, Array.replicate_succ, Array.replicate_zero, List.push_toArray, List.append_toArray, List.nil_append, List.cons_append]
  gi_wp2
  have bO := Boxed.new w 37 (.slice none 0 0)
  have hB0 : Below w.heap.size w (w.alloc (.cells #[.slice none 0 0] 37)) := (Below.refl _ w).alloc (Nat.le_refl _) _
  refine wpIn_rangeFunc_ownH hro h1 (gf := gf) (lb := lb) rfl hg eg
    hs KB.trans (fun W l o o' hl h hc hw => ⟨belowK_b (w := w.alloc (.cells #[.slice none 0 0] 37)) (by simp) W l o o' hl h hc hw, walksK_b (w := w.alloc (.cells #[.slice none 0 0] 37)) W l o o' hl h hc hw⟩) hB0 (fun _ => rfl)
    (fun pre W => (∃ v, Boxed W w.heap.size 37 v ∧ W.ownsRow w.heap.size 33 5 v pre.length (pre.flatMap chain.encI) ∧ (v = .slice none 0 0 ↔ pre = [])) ∧ Below w.heap.size w W)
    (fun _ _ _ => False)
    (OwnFrom.and (Own.from (holdsRow_own w.heap.size w.heap.size 37 33 5 (fun pre => pre.length) (fun pre => pre.flatMap chain.encI) (fun pre v => v = .slice none 0 0 ↔ pre = [])) _) (ownFrom_below (Nat.le_refl _) (by simp)))
    (fun _ _ _ _ _ hs _ _ => hs)
    ⟨⟨_, bO, World.ownsRow_nil _ _ _ _, by simp⟩, hB0⟩
    (fun x a' W => ∃ Bx, w.heap.size < Bx ∧ W.heap[Bx]? = some (.cells #[.int .u32 x.1.e, .int .i64 x.1.d, .int .u32 x.1.a, .int .u32 x.1.b, .int .u32 x.1.c] 33 (0, 0)) ∧ a' = { tmps := #[.slice none 0 0, .func (.func gf) #[] lb, .pointer (some ⟨w.heap.size, 0, none⟩), undef, .slice none 0 0, .pointer (some ⟨Bx, 0, none⟩), .func (.func gf) #[] lb, .agg #[.int .u32 x.1.e, .int .i64 x.1.d, .int .u32 x.1.a, .int .u32 x.1.b, .int .u32 x.1.c], undef, undef, undef, undef, undef], defers := [] })
    (fun x a' _ X Y row hs hg hr => by obtain ⟨Bx, h1, h2, h3⟩ := hs; exact ⟨Bx, h1, box_own Bx (fun (_ : Unit) => #[.int .u32 x.1.e, .int .i64 x.1.d, .int .u32 x.1.a, .int .u32 x.1.b, .int .u32 x.1.c]) 33 () X Y row h2 hg (fun r e => (hr r e).2), h3⟩)
    ?assign ?body ?done ?stop
  case assign =>
    rintro l pre x W K ⟨⟨v, bS1, hrow, hnil⟩, hB1⟩ hK
    gi_wp2
    exact hK _ _ ((KeepsOthers.alloc _ _).from _) ⟨(Below.refl _ W).alloc hB1.size _, KeepsWalks.alloc _ _⟩ ⟨⟨v, bS1.alloc _, hrow.alloc _, hnil⟩, hB1.alloc hB1.size _⟩ ⟨W.heap.size, bS1.lt, World.alloc_heap_new W _, rfl⟩
  case body =>
    rintro l pre x a' W hl ⟨r, hr⟩ ⟨⟨v, hv, hrow, hnil⟩, hB⟩ ⟨Bx, hBx, hX, rfl⟩ hlt
    have hc := hv.cell
    have x0 : W.cell? ⟨Bx, 0, none⟩ = some (.int .u32 x.1.e) := by simp [World.cell?, hX]
    have x1 : W.cell? ⟨Bx, 1, none⟩ = some (.int .i64 x.1.d) := by simp [World.cell?, hX]
    have x2 : W.cell? ⟨Bx, 2, none⟩ = some (.int .u32 x.1.a) := by simp [World.cell?, hX]
    have x3 : W.cell? ⟨Bx, 3, none⟩ = some (.int .u32 x.1.b) := by simp [World.cell?, hX]
    have x4 : W.cell? ⟨Bx, 4, none⟩ = some (.int .u32 x.1.c) := by simp [World.cell?, hX]
    gi_wp2_with (gi_at_builtin; refine wpListIn_append_own _ rfl _ _ 37 rfl w.heap.size 33 i0 (.agg #[.int .u32 T0.e, .int .i64 T0.d, .int .u32 T0.a, .int .u32 T0.b, .int .u32 T0.c]) 5 32 Try.underlying37 hi hz0 hz1 hz2 rfl (by decide) _ _ _ rfl (hrow.alloc _) ⟨W.heap.size, 0, none⟩ 1 1 (cT x.1) rfl rfl (cells_new _ _ _) (oneT x) (by simp [maxLen]; omega) (by omega) (by have := hB.size; simp; omega) ?_; intro v' w1 hown' hgrow _; obtain ⟨g', cap', rfl⟩ := ownsRow_succ hown'; obtain ⟨hv1, hv2, hr2, hk2, hb2⟩ := hv.appended (by decide) hrow hB.size (Nat.le_refl _) hown' hgrow; have hc1 := hv1.cell; have hf1 := hv1.frozen)
    exact ⟨hk2.from _, ⟨hb2, hk2.walks⟩, ⟨_, hv2, by simpa [chain.encI] using hr2, by simp⟩, hB.trans hb2⟩
  case done =>
    rintro D ys W hD hSy ⟨⟨v, hv, hrow, hnil⟩, hB⟩ hK
    have hc := hv.cell
    gi_wp2
    refine ⟨by simp, .inl ⟨_, _, rfl, run_takeDeferred hK, ?_⟩⟩
    exact ⟨_, results_tmp rfl _ _ _, v, ys, rfl, hSy, ownsRow_putObj hrow _ hK rfl, hB.trans (belowK_b (w := w) (Nat.le_refl _) W D _ _ (by simp at hD; omega) hK rfl rfl)⟩
  case stop =>
    rintro D c pre W _ _ h _
    exact h.elim

set_option maxRecDepth 100000 in
theorem collectK (Bm b : Nat) {d : Int} {M : List TN} (G : GoodM d M) (hm : M.length ≤ 4096) (w : World) (hBm : Bm < w.heap.size) (hc : w.cell? ⟨Bm, 0, none⟩ = some (.map (some b))) (h : OwnM w b M) :
    Calls Try.prog 77 #[.func (.func 79) #[] #[.pointer (some ⟨Bm, 0, none⟩)]] w fun e W' => ∃ (v : Value) (ys : List TI), e = .returned v ∧ (ys.map (·.1)).Perm (M.map (·.1)) ∧ W'.ownsRow w.heap.size 33 5 v ys.length (ys.flatMap chain.encI) ∧ Below w.heap.size w W' := by
  have K := callsIn_wide.1 (appendSeqK Fence.wide 4 trivial 79 #[.pointer (some ⟨Bm, 0, none⟩)] trivial (enters_of Try.func79 (by kernel_rfl) rfl) rfl (by omega) M.length hm _ _ w
    (keys_stops Fence.wide 3 trivial rfl (by omega) Bm b G w hBm hc h))
  go_enter Try.func77, Try.ntmps77
  go_wp2_with fail
  refine K.mono ?_
  rintro e w4 ⟨v, ys, rfl, hp, ho, b4⟩
  go_wp2_with fail
  go_ret
  exact ⟨v, ys, rfl, hp, ho, b4⟩
set_option maxRecDepth 100000 in
theorem sortedK (Bm b : Nat) {d : Int} {M : List TN} (G : GoodM d M) (hm : M.length ≤ 4096) (w : World) (hBm : Bm < w.heap.size) (hc : w.cell? ⟨Bm, 0, none⟩ = some (.map (some b))) (h : OwnM w b M) :
    Calls Try.prog 60 #[.func (.func 79) #[] #[.pointer (some ⟨Bm, 0, none⟩)], .func (.func 62) #[] #[]] w fun e W' => ∃ B c, e = .returned (.slice B M.length c) ∧ Lt W' B (M.map (·.1)) ∧ Below w.heap.size w W' := by
  have K := Lib.hid (collectK Bm b G hm w hBm hc h)
  have S0 := Lib.hid sort_none
  have S1 := Lib.hid sort_any
  have hG := Lib.hid G
  clear hc h
  go_enter Try.func60, Try.ntmps60
  go_wp2_with fail
  refine K.out.mono ?_
  rintro e w4 ⟨v, ys, rfl, hp, ho, b4⟩
  have hlen : Hid (ys.length = M.length) := Lib.hid (by have := hp.length_eq; simpa using this)
  have hK := Lib.hid (srt_keys hG.out hp)
  clear hp
  rcases holds_of_own ho with ⟨rfl, hM⟩ | ⟨g, cap', rfl, hg, hgl, hH⟩
  · clear ho
    go_wp2_with fail
    refine (S0.out _ _ _).mono ?_
    rintro e w5 ⟨rfl, rfl⟩
    go_wp2_with fail
    go_ret
    have h0 : M = [] := by
      have := hlen.out
      rw [hM] at this
      exact List.eq_nil_of_length_eq_zero this.symm
    exact ⟨none, 0, by rw [h0]; rfl, by rw [h0]; exact Lt.nil _ _, b4⟩
  · clear ho
    have S2 := Lib.hid (S1.out g 0 cap' ys w4 hH hgl (by have := hlen.out; omega))
    have H5 := Lib.hid (fun n os => holdsK_sortWorldK_c chain.encI 5 w4 g 0 ys.toArray (srt ys).toArray n os hH hgl (by simp [srt]))
    have B5 := Lib.hid (fun n os => below_sorted (n := n) (d := (srt ys).toArray) (os := os) b4 hg b4.size)
    clear hH S1 S0
    go_wp2_with fail
    refine S2.out.mono ?_
    rintro e w5 ⟨rfl, n, os, rfl⟩
    have H6 := H5.out n os
    have B6 := B5.out n os
    have G6 : g < (sortWorldK chain.encI 5 w4 g 0 n (srt ys).toArray os).heap.size := Nat.lt_of_lt_of_le hgl (size_sortWorldK_c chain.encI 5 w4 g 0 n _ os)
    clear H5 B5 S2
    generalize sortWorldK chain.encI 5 w4 g 0 n (srt ys).toArray os = w6 at H6 B6 G6 ⊢
    have L6 := Lib.hid (lt_of_holds _ H6 G6)
    rw [hlen.out]
    clear H6
    go_wp2_with fail
    go_ret
    exact ⟨_, _, rfl, by rw [← hK.out]; exact L6.out, B6⟩
end Go.Proofs.Ytomekndinopoaaa.multi
