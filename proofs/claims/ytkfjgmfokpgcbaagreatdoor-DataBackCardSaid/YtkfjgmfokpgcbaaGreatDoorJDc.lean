/-
  The order of records: cmp.Compare, cmp.Or, data.compare, watershedref11.less.
  The contract of the document's Order.
  slices.SortFunc and slices.SortedFunc at records; data.Order, data.Same.
-/
import Derived.Test.YtkfjgmfokpgcbaaGreatDoorJDe
import Derived.Deep.QuietTactic
import Derived.BigQuiet
import Derived.WalkKit
import Derived.Deep.RegionWith
import Derived.Deep.RegionHeld3
import Derived.Lib.AppendIntMem
import Derived.Sort.Grow
import Derived.Test.YtkfjgmfokpgcbaaGreatDoorJDg
import Derived.Deep.CutBlock
import Derived.Test.YtkfjgmfokpgcbaaGreatDoorJDv
import Derived.Test.YtkfjgmfokpgcbaaGreatDoorJDLay
import Derived.Shelf.GgClosure.Gives
import Derived.Test.YtkfjgmfokpgcbaaGreatDoorJDa
namespace Go.Proofs.YtkfjgmfokpgcbaaGreatDoor.data
open Go.ChangeShapes Go.WideShapes Go.ChangeAt Go.RowKit Go.Lib Go.Sort
open Go.Proofs.YtkfjgmfokpgcbaaGreatDoor.tm Go.Proofs.YtkfjgmfokpgcbaaGreatDoor.opened Go.Proofs.YtkfjgmfokpgcbaaGreatDoor.block Go.Proofs.YtkfjgmfokpgcbaaGreatDoor.region

theorem nz {x : Int} (h : (x != 0) = true) : x ≠ 0 := by simpa using h
theorem ze {x : Int} (h : (x != 0) = false) : x = 0 := by simpa using h
theorem ret_i64 {a b : Int} (h : a = b) : Ending.returned (.int .i64 a) = .returned (.int .i64 b) := by rw [h]
theorem cmp_l64 (x y : Int) (w : World) : Calls Tryz.prog 52 #[.int .i64 x, .int .i64 y] w fun e w' => e = .returned (.int .i64 (cmpI x y)) ∧ w = w' := by
  by_cases h : x < y
  · rw [show cmpI x y = -1 by simp [cmpI, h]]
    go_enter Tryz.func52, Tryz.ntmps52
    go_wp2
    go_ret
    exact ⟨rfl, rfl⟩
  · by_cases k : y < x
    · rw [show cmpI x y = 1 by simp [cmpI, h, k]]
      go_enter Tryz.func52, Tryz.ntmps52
      go_wp2
      go_ret
      exact ⟨rfl, rfl⟩
    · rw [show cmpI x y = 0 by simp [cmpI, h, k]]
      go_enter Tryz.func52, Tryz.ntmps52
      go_wp2
      go_ret
      exact ⟨rfl, rfl⟩
theorem or_two (p q : Int) (g : Nat) (w : World) (c0 : w.cell? ⟨g, 0, none⟩ = some (.int .i64 p)) (c1 : w.cell? ⟨g, 1, none⟩ = some (.int .i64 q)) :
    Calls Tryz.prog 51 #[.slice (some ⟨g, 0, none⟩) 2 2] w fun e w' => e = .returned (.int .i64 (orI p q)) ∧ w = w' := by
  generalize hC : orI p q = C
  have HC := Lib.hid hC
  clear hC
  go_enter Tryz.func51, Tryz.ntmps51
  go_wp2
  refine wp_loop_rounds 3 ?_
  rw [rounds_succ]
  go_wp2
  all_goals try (rw [rounds_succ]; go_wp2)
  all_goals try (rw [rounds_succ]; go_wp2)
  all_goals go_ret
  all_goals refine ⟨ret_i64 ?_, rfl⟩
  all_goals rw [← HC.out]
  all_goals first | (have z := nz ‹(p != 0) = true›; simp [orI, z]) | (have y := ze ‹(p != 0) = false›; have z := nz ‹(q != 0) = true›; simp [orI, y]) | (have y := ze ‹(p != 0) = false›; have x := ze ‹(q != 0) = false›; simp [orI, y, x])
theorem or_new2 (p q : Int) {W : World} {g : Nat} (hg : W.heap.size = g) :
    Calls Tryz.prog 51 #[.slice (some ⟨g, 0, none⟩) 2 2] ((W.alloc (.cells #[.int .i64 p, .int .i64 q] 3)).drew) fun e w' => e = .returned (.int .i64 (orI p q)) ∧ ((W.alloc (.cells #[.int .i64 p, .int .i64 q] 3)).drew) = w' := by
  subst hg
  have h := Whole.fresh W 3 #[.int .i64 p, .int .i64 q]
  exact or_two p q W.heap.size _ (h.read 0) (h.read 1)
set_option maxHeartbeats 1000000 in
theorem compare_grown (s t : Rc) (w : World) : Calls Tryz.prog 38 #[.agg #[.int .i64 s.k, .int .i64 s.v], .agg #[.int .i64 t.k, .int .i64 t.v]] w fun e w' => e = .returned (.int .i64 (cmpR s t)) ∧ ∃ q os', w' = grow (w.drewN q) os' := by
  go_enter Tryz.func38, Tryz.ntmps38
  go_wp2_with (fail)
  go_region_held3 (fun w' => w'.cell? ⟨w.heap.size, 0, none⟩ = some (.int .i64 s.k) ∧ w'.cell? ⟨w.heap.size, 1, none⟩ = some (.int .i64 s.v) ∧ w'.cell? ⟨w.heap.size + 1, 0, none⟩ = some (.int .i64 t.k) ∧ w'.cell? ⟨w.heap.size + 1, 1, none⟩ = some (.int .i64 t.v))
    (go_keep)
    (first | (go_at_call 52; refine (cmp_l64 _ _ _).mono ?_; rintro e w' ⟨rfl, rfl⟩) | (go_at_call 51; refine (or_new2 _ _ ?_).mono ?_; (simp); rintro e w2 ⟨rfl, rfl⟩))
  all_goals go_wp2
  all_goals go_ret
  all_goals exact ⟨rfl, 1, _, by rw [alloc_eq_grow, alloc_eq_grow, alloc_eq_grow, grow_grow, grow_grow]; rfl⟩
end Go.Proofs.YtkfjgmfokpgcbaaGreatDoor.data
namespace Go.Proofs.YtkfjgmfokpgcbaaGreatDoor.data
open Go.ChangeShapes Go.WideShapes Go.ChangeAt Go.RowKit
open Go.Proofs.YtkfjgmfokpgcbaaGreatDoor.opened Go.Proofs.YtkfjgmfokpgcbaaGreatDoor.block Go.Proofs.YtkfjgmfokpgcbaaGreatDoor.region

theorem since_callS {P : Program} {f : FuncId} {args : Array Value} {v : Value} {w0 : World} (h : ∀ x : Since w0, Calls P f args x.1 fun e w' => e = .returned v ∧ Below x.1.heap.size x.1 w') (x : Since w0) :
    Calls P f args x.1 fun e w' => e = .returned v ∧ ∃ y : Since w0, w' = y.1 :=
  (h x).mono fun _ w' ⟨he, hb⟩ => ⟨he, ⟨w', then_below x.2 hb⟩, rfl⟩
/-- All from n on are greater than x. -/
def Over (N : List Rc) (x : Rc) (n : Nat) : Prop := n ≤ N.length ∧ ∀ j y, n ≤ j → N[j]? = some y → ltR x y = true
theorem over_down {N : List Rc} {x y : Rc} {n : Nat} (h : Over N x (n + 1)) (hy : N[n]? = some y) (hl : ltR x y = true) : Over N x n := by
  refine ⟨Nat.le_of_succ_le h.1, fun j z hj hz => ?_⟩
  by_cases e : j = n
  · subst e; rw [hy] at hz; rw [← Option.some.inj hz]; exact hl
  · exact h.2 j z (by omega) hz
/-- As the elements behind are moved on: a hole at k. -/
def Hole (N M : List Rc) (k : Nat) : Prop := k ≤ N.length ∧ ∃ z, M = N.take k ++ z :: N.drop k
theorem hole_at {N M : List Rc} {k : Nat} (h : Hole N M (k + 1)) : ∃ y, N[k]? = some y ∧ M[k]? = some y ∧ Hole N (M.set (k + 1) y) k ∧ M.length = N.length + 1 := by
  obtain ⟨hk, z, rfl⟩ := h
  obtain ⟨y, hy, -⟩ := get_ltR (show k < N.length by omega)
  have hl : (N.take (k + 1)).length = k + 1 := by rw [List.length_take]; omega
  refine ⟨y, hy, ?_, ⟨by omega, y, ?_⟩, ?_⟩
  · rw [List.getElem?_append_left (by omega), List.getElem?_take, if_pos (by omega)]
    exact hy
  · rw [List.set_append_right _ _ (by omega), hl, Nat.sub_self, List.set_cons_zero, take_next hy, drop_next hy]
    simp
  · simp
    omega
theorem hole_fill {N M : List Rc} {k : Nat} (x : Rc) (h : Hole N M k) : M.set k x = N.take k ++ x :: N.drop k ∧ M.length = N.length + 1 := by
  obtain ⟨hk, z, rfl⟩ := h
  have hl : (N.take k).length = k := by rw [List.length_take]; omega
  constructor
  · rw [List.set_append_right _ _ (by omega), hl, Nat.sub_self, List.set_cons_zero]
  · simp
    omega
theorem hole_new (N : List Rc) (x : Rc) : Hole N (N ++ [x]) N.length := ⟨Nat.le_refl _, x, by simp⟩
theorem flat_set (M : List Rc) : ∀ (k : Nat) (x : Rc), k < M.length → (M.set k x).flatMap cR = ((M.flatMap cR).set (k * 2) (.int .i64 x.k)).set (k * 2 + 1) (.int .i64 x.v) := by
  induction M with
  | nil => intro k x h; simp at h
  | cons y M ih =>
    intro k x h
    cases k with
    | zero => simp [cR]
    | succ k =>
      rw [List.set_cons_succ, List.flatMap_cons, ih k x (by simpa using h), List.flatMap_cons]
      rw [show (k + 1) * 2 = k * 2 + 2 by omega]
      simp [cR]
/-- A record is stored into a row of one's own. -/
theorem own_stored {w : World} {base g cap : Nat} {M : List Rc} {k : Nat} {x : Rc} (h : OwnR w base (.slice (some ⟨g, 0, none⟩) M.length cap) M) (hk : k < M.length) :
    OwnR ((w.setCell ⟨g, k * 2, none⟩ (.int .i64 x.k)).setCell ⟨g, k * 2 + 1, none⟩ (.int .i64 x.v)) base (.slice (some ⟨g, 0, none⟩) (M.set k x).length cap) (M.set k x) ∧
      w.grownBy ((w.setCell ⟨g, k * 2, none⟩ (.int .i64 x.k)).setCell ⟨g, k * 2 + 1, none⟩ (.int .i64 x.v)) (some g) := by
  have h1 := World.ownsRow.stored h (k * 2) (.int .i64 x.k)
  have h2 := World.ownsRow.stored h1.1 (k * 2 + 1) (.int .i64 x.v)
  unfold OwnR OwnG
  rw [List.length_set, flat_set M k x hk]
  exact ⟨h2.1, h1.2.trans h2.2⟩
end Go.Proofs.YtkfjgmfokpgcbaaGreatDoor.data
namespace Go.Proofs.YtkfjgmfokpgcbaaGreatDoor.data
open Go.ChangeShapes Go.WideShapes Go.ChangeAt Go.RowKit Go.Shelf Go.Lib Go.Sort
open Go.Proofs.YtkfjgmfokpgcbaaGreatDoor.tm Go.Proofs.YtkfjgmfokpgcbaaGreatDoor.opened Go.Proofs.YtkfjgmfokpgcbaaGreatDoor.block Go.Proofs.YtkfjgmfokpgcbaaGreatDoor.region

theorem ltOf_R (x y : Rc) : ltOf cmpR x y = ltR x y := by
  unfold ltOf
  rw [Bool.eq_iff_iff, decide_eq_true_iff]
  exact cmpR_lt
theorem swoR : SWO (ltOf cmpR) where
  irrefl x := by rw [ltOf_R]; simp [ltR]
  trans x y z h1 h2 := by rw [ltOf_R] at *; rw [ltR_iff] at *; omega
  ntrans x y z h1 h2 := by rw [ltOf_R] at *; rw [ltR_not] at *; exact leR_trans h2 h1
theorem totR (x y : Rc) (h : ltOf cmpR x y = false) (k : ltOf cmpR y x = false) : x = y := by
  rw [ltOf_R, ltR_not] at h k
  exact leR_anti k h
theorem srt_is (M : List Rc) : (M.mergeSort fun x y => !ltOf cmpR y x) = srtR M := by
  unfold srtR
  congr 1
  funext x y
  rw [ltOf_R]
  rfl
theorem laysR (blk off size : Nat) (w : World) : CmpLays Tryz.prog 38 #[] cR 2 cmpR blk off size w := fun _ _ _ _ x y => compare_grown x y _
theorem sort_any (blk off cap : Nat) (M : List Rc) (w : World) (hH : HoldsK cR 2 w blk off M.toArray) (hblk : blk < w.heap.size) (hsz : M.length < 4611686018427387904) :
    Calls Tryz.prog 49 #[.slice (some ⟨blk, off, none⟩) M.length cap, .func (.func 38) #[] #[]] w fun e w' => e = .returned (.tuple #[]) ∧ ∃ n os, w' = sortWorldK cR 2 w blk off n (srtR M).toArray os := by
  have eg : ∀ args w, (callFunc 38 args).run Tryz.prog w = .ok (.enter 38 args) w := enters_of Tryz.func38 (by kernel_rfl) rfl
  have h := AnyQ.slices_SortFunc_total Tryz.lFr 2 Tryz.isAgg33 Tryz.sizeOf33 cR (fun _ => rfl) cellsR.one cmpR swoR 38 #[] blk off cap M.toArray w eg (laysR blk off _ w) hH hblk (by simpa using hsz) totR
  rw [← srt_is M]
  exact h
theorem sort_none (A : Option Addr) (cap : Nat) (w : World) :
    Calls Tryz.prog 49 #[.slice A 0 cap, .func (.func 38) #[] #[]] w fun e w' => e = .returned (.tuple #[]) ∧ w' = w :=
  AnyF.slices_SortFunc_none { Tryz.lFr with } A cap _ w
theorem flat_get (M : List Rc) : ∀ t, t < M.length * 2 → (M.flatMap cR)[t]? = some ((cR M[t / 2]!)[t % 2]!) := by
  induction M with
  | nil => intro t h; simp at h
  | cons x r ih =>
    intro t h
    have h5 : (cR x).length = 2 := rfl
    rw [List.flatMap_cons]
    by_cases ht : t < 2
    · rw [List.getElem?_append_left (by rw [h5]; exact ht), show t / 2 = 0 by omega, show t % 2 = t by omega]
      rw [List.getElem?_eq_getElem (by rw [h5]; exact ht)]
      simp only [List.getElem!_cons_zero]
      rw [getElem!_pos _ t (by rw [h5]; exact ht)]
    · rw [List.getElem?_append_right (by rw [h5]; omega), h5, ih (t - 2) (by simp at h; omega)]
      rw [show t / 2 = (t - 2) / 2 + 1 by omega, show (t - 2) % 2 = t % 2 by omega, List.getElem!_cons_succ]
theorem lr_of_holds {w : World} {b : Nat} (N : List Rc) (h : HoldsK cR 2 w b 0 N.toArray) (hb : b < w.heap.size) : Lr w (some ⟨b, 0, none⟩) N := by
  refine .inr ⟨b, 0, rfl, hb, fun i x hx => ?_⟩
  simp only [List.getElem?_map, Option.map_eq_some_iff] at hx
  obtain ⟨y, hy, rfl⟩ := hx
  refine ⟨rfl, fun j hj => ?_⟩
  obtain ⟨hi, hy⟩ := List.getElem?_eq_some_iff.1 hy
  have hc := (h.cell (i := i) (c := j) (by simpa using hi) hj).1
  rw [← Nat.add_assoc, hc]
  rw [show N.toArray[i]! = y by simp [hi, hy]]
  show some ((cR y)[j]!) = (cR y)[j]?
  rw [List.getElem?_eq_getElem (show j < (cR y).length from hj), getElem!_pos _ j (show j < (cR y).length from hj)]
theorem holds_of_own {w : World} {base : Nat} {v : Value} {M : List Rc} (h : w.ownsRow base 33 2 v M.length (M.flatMap cR)) : (v = .slice none 0 0 ∧ M = []) ∨ ∃ g cap, v = .slice (some ⟨g, 0, none⟩) M.length cap ∧ base ≤ g ∧ g < w.heap.size ∧ HoldsK cR 2 w g 0 M.toArray := by
  rcases h.2 with ⟨hv, hn⟩ | ⟨g, cap, cur, hv, hb, hg, hc, hcm, hs, ht⟩
  · exact .inl ⟨hv, List.eq_nil_of_length_eq_zero hn⟩
  · refine .inr ⟨g, cap, hv, hb, (Array.getElem?_eq_some_iff.1 hg).1, fun t ht' => ?_⟩
    have ht2 : t < M.length * 2 := by simpa using ht'
    have e := flat_get M t ht2
    rw [← ht, List.getElem?_take, if_pos ht2, Array.getElem?_toList] at e
    rw [get_flatK _ _ _ _ (by simpa using ht2)]
    constructor
    · simp [World.cell?, hg, e]
    · simp [World.frozen?, hg]
theorem below_sorted {w0 w : World} {B g n : Nat} {d : Array Rc} {os : Array Obj} (h : Below B w0 w) (hg : B ≤ g) (hB : B ≤ w.heap.size) : Below B w0 (sortWorldK cR 2 w g 0 n d os) := by
  have hsz : (putRowK cR 2 (Sort.ahead w n) g 0 d).heap.size = w.heap.size := by simp [putRowK, putRow, mapBlock, Sort.ahead]
  have h1 : Below B w0 (putRowK cR 2 (Sort.ahead w n) g 0 d) := ⟨h.os, h.tape, h.output, by rw [hsz]; exact h.size, fun k hk => by
    rw [← h.block k hk]
    have hne : g ≠ k := by omega
    simp [putRowK, putRow, mapBlock, Sort.ahead, Array.getElem?_modify, hne]⟩
  exact h1.trans ((below_grown (putRowK cR 2 (Sort.ahead w n) g 0 d) 0 os).mono (by rw [hsz]; exact hB))
set_option maxRecDepth 100000 in
theorem sortedFunc_any (Bs : Nat) (A : Option Addr) (cap : Nat) (L : List Rc) (mL : L.length ≤ 4096) (w : World) (hBs : Bs < w.heap.size) (hc : w.cell? ⟨Bs, 0, none⟩ = some (.slice A L.length cap)) (hL : Lr w A L) :
    Calls Tryz.prog 36 #[.func (.func 50) #[] #[.pointer (some ⟨Bs, 0, none⟩)], .func (.func 38) #[] #[]] w fun e W' => ∃ B c, e = .returned (.slice B (srtR L).length c) ∧ Lr W' B (srtR L) ∧ Below w.heap.size w W' := by
  have K := Lib.hid (collect_any Bs A cap L mL w hBs hc hL)
  have S0 := Lib.hid sort_none
  have S1 := Lib.hid sort_any
  rw [srt_len]
  go_enter Tryz.func36, Tryz.ntmps36
  go_wp2_with fail
  refine K.out.mono ?_
  rintro e w4 ⟨v, rfl, ho, b4⟩
  rcases holds_of_own ho with ⟨rfl, hM⟩ | ⟨g, cap', rfl, hg, hgl, hH⟩
  · clear ho
    go_wp2_with fail
    refine (S0.out _ _ _).mono ?_
    rintro e w5 ⟨rfl, rfl⟩
    go_wp2_with fail
    go_ret
    exact ⟨none, 0, by rw [hM]; rfl, by rw [hM, srt_nil]; exact lg_nil _ _, b4⟩
  · clear ho
    have S2 := Lib.hid (S1.out g 0 cap' L w4 hH hgl (by omega))
    have H5 := Lib.hid (fun n os => holdsK_sortWorldK_c cR 2 w4 g 0 L.toArray (srtR L).toArray n os hH hgl (by simp [srt_len]))
    have B5 := Lib.hid (fun n os => below_sorted (n := n) (d := (srtR L).toArray) (os := os) b4 hg b4.size)
    clear hH S1 S0
    go_wp2_with fail
    refine S2.out.mono ?_
    rintro e w5 ⟨rfl, n, os, rfl⟩
    have H6 := H5.out n os
    have B6 := B5.out n os
    have G6 : g < (sortWorldK cR 2 w4 g 0 n (srtR L).toArray os).heap.size := Nat.lt_of_lt_of_le hgl (size_sortWorldK_c cR 2 w4 g 0 n _ os)
    clear H5 B5 S2
    generalize sortWorldK cR 2 w4 g 0 n (srtR L).toArray os = w6 at H6 B6 G6 ⊢
    go_wp2_with fail
    go_ret
    exact ⟨_, _, rfl, lr_of_holds _ H6 G6, B6⟩
set_option maxRecDepth 100000 in
theorem order_any (A : Option Addr) (c : Nat) (L : List Rc) (mL : L.length ≤ 4096) (w : World) (hL : Lr w A L) :
    Calls Tryz.prog 19 #[.slice A L.length c] w fun e W' => ∃ B c', e = .returned (.slice B (srtR L).length c') ∧ Lr W' B (srtR L) ∧ Below w.heap.size w W' := by
  have V := Lib.hid (values_call A L.length c w)
  have S := Lib.hid (sortedFunc_any w.heap.size A c L mL (w.alloc (.cells #[.slice A L.length c] 22)) (by simp) (by rw [(Whole.fresh w 22 #[.slice A L.length c]).read 0]; rfl) (hL.below (fresh0 _ _)))
  have B0 := Lib.hid (fresh0 w (.cells #[.slice A L.length c] 22))
  clear hL
  go_enter Tryz.func19, Tryz.ntmps19
  go_wp2_with fail
  refine V.out.mono ?_
  rintro e w1 ⟨rfl, rfl⟩
  go_wp2_with fail
  refine S.out.mono ?_
  rintro e w2 ⟨B, c', rfl, hl, b2⟩
  have H2 := Lib.hid hl
  have B2 := Lib.hid (B0.out.trans (b2.mono B0.out.size))
  clear hl b2
  go_wp2_with fail
  go_ret
  exact ⟨B, c', rfl, H2.out, B2.out⟩
set_option maxRecDepth 100000 in
theorem equal_any (A B : Option Addr) (c d : Nat) (N M : List Rc) (hM : M.length ≤ 1000000) (w : World) (h1 : Lr w A N) (h2 : Lr w B M) :
    Calls Tryz.prog 24 #[.slice A N.length c, .slice B M.length d] w fun e w' => e = .returned (.bool (decide (N = M))) ∧ Below w.heap.size w w' := by
  have H1 := Lib.hid h1
  have H2 := Lib.hid h2
  clear h1 h2
  by_cases hl : N.length = M.length
  · have HL := Lib.hid hl
    generalize hn : M.length = n at hl hM
    have HM := Lib.hid hn
    rw [hl]
    clear hn hl
    go_enter Tryz.func24, Tryz.ntmps24
    go_wp2_with fail
    go_loopw [13] (fun i wr => ∃ k : Nat, k ≤ n ∧ i = .int .i64 k ∧ Hid (N.take k = M.take k) ∧ Below w.heap.size w wr) (fun i _ => n - (intOf i).toNat)
    case atStart => exact ⟨0, Nat.zero_le _, rfl, Lib.hid (by simp), Below.refl _ _⟩
    case round =>
      obtain ⟨k, hk, rfl, HT, hb⟩ := hrel
      by_cases hlt : k < n
      · obtain ⟨x, hx⟩ : ∃ x, N[k]? = some x := ⟨_, List.getElem?_eq_getElem (by have := HL.out; have := HM.out; omega)⟩
        obtain ⟨y, hy⟩ : ∃ y, M[k]? = some y := ⟨_, List.getElem?_eq_getElem (by have := HM.out; omega)⟩
        obtain ⟨b1, o1, rfl, hb1, c1, c2⟩ := at_rc (H1.out.below hb) hx
        obtain ⟨b2, o2, rfl, hb2, c3, c4⟩ := at_rc (H2.out.below hb) hy
        have HX := Lib.hid hx
        have HY := Lib.hid hy
        have hq := run_neR x y
        clear hx hy
        by_cases hv : x = y
        · have HR := Lib.hid (same_more HT.out HX.out HY.out hv)
          rw [decide_eq_true hv] at hq
          clear hv
          go_upto_region 6 with fail
          go_quiet (fail)
          go_wp2_with fail
          go_roundw
          case rel => exact ⟨k + 1, by omega, by go_num, HR, below_drewN hb _⟩
          case measure => simp [intOf]; omega
        · have HR : Hid (N ≠ M) := Lib.hid (same_not HX.out HY.out hv)
          rw [decide_eq_false hv] at hq
          clear hv
          go_upto_region 6 with fail
          go_quiet (fail)
          go_wp2_with fail
          go_ret
          rw [decide_eq_false HR.out]
          exact ⟨rfl, below_drewN hb _⟩
      · have HR : Hid (N = M) := Lib.hid (by
          have e := HT.out
          have := HL.out
          have := HM.out
          rwa [List.take_of_length_le (by omega), List.take_of_length_le (by omega)] at e)
        go_wp2_with fail
        go_ret
        rw [decide_eq_true HR.out]
        exact ⟨rfl, hb⟩
  · have HR : Hid (N ≠ M) := Lib.hid (fun e => hl (congrArg List.length e))
    generalize N.length = n at hl
    generalize M.length = m at hl hM
    have hne : ((n : Int) == (m : Int)) = false := by rw [beq_eq_false_iff_ne]; omega
    go_enter Tryz.func24, Tryz.ntmps24
    go_wp2_with fail
    go_ret
    rw [decide_eq_false HR.out]
    exact ⟨rfl, Below.refl _ _⟩
set_option maxRecDepth 100000 in
theorem same_any (A B : Option Addr) (c d : Nat) (L M : List Rc) (mL : L.length ≤ 4096) (mM : M.length ≤ 4096) (w : World) (hL : Lr w A L) (hM : Lr w B M) :
    Calls Tryz.prog 10 #[.slice A L.length c, .slice B M.length d] w fun e w' => e = .returned (.bool (decide (srtR L = srtR M))) ∧ Below w.heap.size w w' := by
  by_cases hl : L.length = M.length
  · have O1 := Lib.hid (order_any A c L mL w hL)
    have O2 := Lib.hid (fun w2 (h : Below w.heap.size w w2) => order_any B d M mM w2 (hM.below h))
    have E1 := Lib.hid (fun w2 B1 c1 B2 c2 h1 h2 => equal_any B1 B2 c1 c2 (srtR L) (srtR M) (by rw [srt_len]; omega) w2 h1 h2)
    have HS := Lib.hid (srt_len L)
    clear hL hM
    generalize srtR L = N at O1 E1 HS ⊢
    generalize srtR M = K at O2 E1 ⊢
    have he : ((L.length : Int) == (M.length : Int)) = true := by rw [beq_iff_eq]; omega
    clear hl
    go_enter Tryz.func10, Tryz.ntmps10
    go_wp2_with fail
    refine O1.out.mono ?_
    rintro e w1 ⟨B1, c1, rfl, l1, b1⟩
    have H1 := Lib.hid l1
    have HB1 := Lib.hid b1
    clear l1 b1
    go_wp2_with fail
    refine (O2.out _ HB1.out).mono ?_
    rintro e w2 ⟨B2, c2, rfl, l2, b2⟩
    have H2 := Lib.hid l2
    have H12 := Lib.hid (H1.out.below b2)
    have HB2 := Lib.hid (HB1.out.trans (b2.mono HB1.out.size))
    clear l2 b2
    go_wp2_with fail
    refine (E1.out _ B1 c1 B2 c2 H12.out H2.out).mono ?_
    rintro e w3 ⟨rfl, b3⟩
    have HB3 := Lib.hid (HB2.out.trans (b3.mono HB2.out.size))
    clear b3
    go_wp2_with fail
    go_ret
    exact ⟨rfl, HB3.out⟩
  · have hne : decide (srtR L = srtR M) = false := decide_eq_false (fun e => hl (by rw [← srt_len L, ← srt_len M, e]))
    rw [hne]
    have he : ((L.length : Int) == (M.length : Int)) = false := by rw [beq_eq_false_iff_ne]; omega
    clear hl hL hM hne
    go_enter Tryz.func10, Tryz.ntmps10
    go_wp2_with fail
    go_ret
    exact ⟨rfl, Below.refl _ _⟩
end Go.Proofs.YtkfjgmfokpgcbaaGreatDoor.data
