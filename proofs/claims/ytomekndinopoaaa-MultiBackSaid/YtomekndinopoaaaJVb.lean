/-
  slices.Values, slices.AppendSeq and slices.Collect at times.
  slices.Collect and slices.SortedFunc at times.
-/
import Derived.Test.YtomekndinopoaaaJSo
import Derived.Test.YtomekndinopoaaaJOw
import Derived.Maps.AppendAt
namespace Go.Proofs.Ytomekndinopoaaa.chain
open Go.ChangeShapes Go.WideShapes Go.ChangeAt Go.RowKit Go.Shelf
open Go.Proofs.Ytomekndinopoaaa.tm Go.Proofs.Ytomekndinopoaaa.opened Go.Proofs.Ytomekndinopoaaa.block Go.Proofs.Ytomekndinopoaaa.stamp
attribute [local go_sem] Oper.semAt_some

set_option maxRecDepth 100000 in
set_option maxHeartbeats 1000000 in
theorem values1_nil (F : Fence) (n : Nat) (h7 : F.fn 100) (hro : F.round = none) (l Bs : Nat) (A : Option Addr) (cap : Nat) (J : List TI → World → Prop) (W : World) (hBs : W.cell? ⟨Bs, 0, none⟩ = some (.slice A 0 cap)) (h0 : J [] W) :
    CallsIn F n Try.prog 100 #[.func (.yield l) #[] #[], .pointer (some ⟨Bs, 0, none⟩)] W fun e W' => (∃ v, e = .returned v) ∧ J [] W' := by
  refine callsIn_of_wp Try.func100 rfl h7 ?_ hro
  simp only [Try.ntmps100, List.size_toArray, List.length_cons, List.length_nil, Nat.reduceAdd, Nat.reduceSub, Array.replicate_succ, Array.replicate_zero, List.push_toArray, List.append_toArray, List.nil_append, List.cons_append]
  gi_wp2
  gi_loopw [7] (fun i wr => i = .int .i64 0 ∧ J [] wr) (fun _ _ => 0)
  case atStart => exact ⟨rfl, h0⟩
  case round =>
    obtain ⟨rfl, hJs⟩ := hrel
    gi_wp2
    go_end0
    exact ⟨⟨_, rfl⟩, hJs⟩
theorem values_call (A : Option Addr) (len cap : Nat) (w : World) :
    Calls Try.prog 86 #[.slice A len cap] w fun e w' => e = .returned (.func (.func 100) #[] #[.pointer (some ⟨w.heap.size, 0, none⟩)]) ∧ w' = w.alloc (.cells #[.slice A len cap] 37) := by
  go_enter Try.func86, Try.ntmps86
  go_wp2
  go_ret
  exact ⟨rfl, rfl⟩
theorem At.of {w : World} {A : Option Addr} {L : List Tm} {h : InL L} {b off : Nat} (hL : Lt w A L) (hA : A = some ⟨b, off, none⟩) : At w b off (tis L h) := fun j hj => by
  obtain ⟨b', off', hA', -, c⟩ := hL.at (tis_get hj)
  rw [hA] at hA'
  injection (Option.some.inj hA') with h1 h2
  subst h1 h2
  exact c
theorem Lt.inside {w : World} {A : Option Addr} {L : List Tm} (h : Lt w A L) (hne : L ≠ []) : ∀ b off, A = some ⟨b, off, none⟩ → b < w.heap.size := by
  intro b off e
  rcases h with h | ⟨b', off', hA, hbl, -⟩
  · exact absurd (by simpa using h) hne
  · rw [e] at hA
    injection (Option.some.inj hA) with h1 h2
    rw [h1]; exact hbl
/-- What slices.Values hands back gives just these times, one after another. -/
theorem values_stops (F : Fence) (n : Nat) (h7 : F.fn 100) (hro : F.round = none) (hn : 1 ≤ n) (Bs n₀ : Nat) (A : Option Addr) (cap : Nat) (L : List Tm) (iL : InL L) (mL : L.length ≤ 4611686018427387903) (w : World) (hBs : Bs < w.heap.size) (hn₀ : n₀ ≤ w.heap.size)
    (hc : w.cell? ⟨Bs, 0, none⟩ = some (.slice A L.length cap)) (hL : Lt w A L) (hA : L ≠ [] → ∀ b off, A = some ⟨b, off, none⟩ → b < n₀) :
    SeqStopsK F n Try.prog 100 #[.pointer (some ⟨Bs, 0, none⟩)] (fun x : TI => #[.agg #[.int .u32 x.1.e, .int .i64 x.1.d, .int .u32 x.1.a, .int .u32 x.1.b, .int .u32 x.1.c]]) (Below n₀) (fun ys => ys = tis L iL) (fun pre => pre <+: tis L iL) (tis L iL).length w := fun l J Jx W hW hJ _ hY h0 => by
  have hc' := (hW.cell (p := ⟨Bs, 0, none⟩) hBs).trans hc
  cases L with
  | nil => exact (values1_nil F n h7 hro l Bs A cap J W hc' h0).mono fun e W' ⟨he, hj⟩ => ⟨he, .inl ⟨_, rfl, hj⟩⟩
  | cons t r =>
    obtain ⟨b, off, rfl, hb, -⟩ := hL.at (k := 0) (t := t) rfl
    have hb0 := hA (by simp) b off rfl
    rw [← tis_len (t :: r) iL] at hc'
    exact values1 F n h7 hro hn l Bs n₀ b off cap (tis (t :: r) iL) (by rw [tis_len]; exact mL) hb0 J Jx hY W (Nat.le_trans hn₀ hW.size) hJ hc' ((At.of hL rfl).below hW hb) h0
theorem box_own {β : Type} (B : Nat) (cs : β → Array Value) (t : TypeId) : Own (fun s W => W.heap[B]? = some (.cells (cs s) t (0, 0))) := fun s X Y row h hg hr => (hg.block B (Array.getElem?_eq_some_iff.1 h).1 (fun e => by obtain ⟨o, ho, hc⟩ := hr B e.symm; rw [h] at ho; cases ho; cases hc)).trans h
set_option maxRecDepth 100000 in
set_option maxHeartbeats 2000000 in
theorem appendSeq (F : Fence) (n : Nat) (hf : F.fn 93) (gf : Nat) (lb : Array Value) (hg : F.fn gf) (eg : ∀ args w, (callFunc gf args).run Try.prog w = .ok (.enter gf args) w) (hro : F.round = none) (hn : 3 ≤ n) (M : List TI) (hlen : M.length ≤ 4096) (w : World)
    (hs : SeqStopsK F (n - 1) Try.prog gf lb (fun x : TI => #[.agg #[.int .u32 x.1.e, .int .i64 x.1.d, .int .u32 x.1.a, .int .u32 x.1.b, .int .u32 x.1.c]]) (Below w.heap.size) (fun ys => ys = M) (fun pre => pre <+: M) M.length w) :
    CallsIn F n Try.prog 93 #[.slice none 0 0, .func (.func gf) #[] lb] w fun e W' => ∃ v, e = .returned v ∧ W'.ownsRow w.heap.size 33 5 v M.length (M.flatMap encI) ∧ (v = .slice none 0 0 ↔ M = []) ∧ Below w.heap.size w W' := by
  have h1 : 1 ≤ n := by omega
  obtain ⟨i0, hi, hz0, hz1, hz2⟩ := info_parts infoT
  refine callsIn_of_wp_marks Try.func93 rfl hf ?_ hro
  simp only [Try.ntmps93, List.size_toArray, List.length_cons, List.length_nil, Nat.reduceAdd, Nat.reduceSub, Array.replicate_succ, Array.replicate_zero, List.push_toArray, List.append_toArray, List.nil_append, List.cons_append]
  gi_wp2
  have bO := Boxed.new w 37 (.slice none 0 0)
  have hB0 : Below w.heap.size w (w.alloc (.cells #[.slice none 0 0] 37)) := (Below.refl _ w).alloc (Nat.le_refl _) _
  refine wpIn_rangeFunc_ownH hro h1 (gf := gf) (lb := lb) rfl hg eg
    hs belowK_t (belowK_b (by simp)) hB0 (fun _ => rfl)
    (fun pre W => (∃ v, Boxed W w.heap.size 37 v ∧ W.ownsRow w.heap.size 33 5 v pre.length (pre.flatMap encI) ∧ (v = .slice none 0 0 ↔ pre = [])) ∧ Below w.heap.size w W)
    (fun _ _ _ => False)
    (OwnFrom.and (Own.from (holdsRow_own w.heap.size w.heap.size 37 33 5 (fun pre => pre.length) (fun pre => pre.flatMap encI) (fun pre v => v = .slice none 0 0 ↔ pre = [])) _) (ownFrom_below (Nat.le_refl _) (by simp)))
    (fun _ _ _ _ _ hs _ _ => hs)
    ⟨⟨_, bO, World.ownsRow_nil _ _ _ _, by simp⟩, hB0⟩
    (fun x a' W => ∃ Bx, w.heap.size < Bx ∧ W.heap[Bx]? = some (.cells #[.int .u32 x.1.e, .int .i64 x.1.d, .int .u32 x.1.a, .int .u32 x.1.b, .int .u32 x.1.c] 33 (0, 0)) ∧ a' = { tmps := #[.slice none 0 0, .func (.func gf) #[] lb, .pointer (some ⟨w.heap.size, 0, none⟩), undef, .slice none 0 0, .pointer (some ⟨Bx, 0, none⟩), .func (.func gf) #[] lb, .agg #[.int .u32 x.1.e, .int .i64 x.1.d, .int .u32 x.1.a, .int .u32 x.1.b, .int .u32 x.1.c], undef, undef, undef, undef, undef], defers := [] })
    (fun x a' _ X Y row hs hg hr => by obtain ⟨Bx, h1, h2, h3⟩ := hs; exact ⟨Bx, h1, box_own Bx (fun (_ : Unit) => #[.int .u32 x.1.e, .int .i64 x.1.d, .int .u32 x.1.a, .int .u32 x.1.b, .int .u32 x.1.c]) 33 () X Y row h2 hg (fun r e => (hr r e).2), h3⟩)
    ?assign ?body ?done ?stop
  case assign =>
    rintro l pre x W K ⟨⟨v, bS1, hrow, hnil⟩, hB1⟩ hK
    gi_wp2
    exact hK _ _ ((KeepsOthers.alloc _ _).from _) ((Below.refl _ W).alloc hB1.size _) ⟨⟨v, bS1.alloc _, hrow.alloc _, hnil⟩, hB1.alloc hB1.size _⟩ ⟨W.heap.size, bS1.lt, World.alloc_heap_new W _, rfl⟩
  case body =>
    rintro l pre x a' W hl ⟨r, hr⟩ ⟨⟨v, hv, hrow, hnil⟩, hB⟩ ⟨Bx, hBx, hX, rfl⟩ hlt
    have hc := hv.cell
    have x0 : W.cell? ⟨Bx, 0, none⟩ = some (.int .u32 x.1.e) := by simp [World.cell?, hX]
    have x1 : W.cell? ⟨Bx, 1, none⟩ = some (.int .i64 x.1.d) := by simp [World.cell?, hX]
    have x2 : W.cell? ⟨Bx, 2, none⟩ = some (.int .u32 x.1.a) := by simp [World.cell?, hX]
    have x3 : W.cell? ⟨Bx, 3, none⟩ = some (.int .u32 x.1.b) := by simp [World.cell?, hX]
    have x4 : W.cell? ⟨Bx, 4, none⟩ = some (.int .u32 x.1.c) := by simp [World.cell?, hX]
    gi_wp2_with (gi_at_builtin; refine wpListIn_append_own _ rfl _ _ 37 rfl w.heap.size 33 i0 (.agg #[.int .u32 T0.e, .int .i64 T0.d, .int .u32 T0.a, .int .u32 T0.b, .int .u32 T0.c]) 5 32 Try.underlying37 hi hz0 hz1 hz2 rfl (by decide) _ _ _ rfl (hrow.alloc _) ⟨W.heap.size, 0, none⟩ 1 1 (cT x.1) rfl rfl (cells_new _ _ _) (oneT x) (by simp [maxLen]; omega) (by omega) (by have := hB.size; simp; omega) ?_; intro v' w1 hown' hgrow _; obtain ⟨g', cap', rfl⟩ := ownsRow_succ hown'; obtain ⟨hv1, hv2, hr2, hk2, hb2⟩ := hv.appended (by decide) hrow hB.size (Nat.le_refl _) hown' hgrow; have hc1 := hv1.cell; have hf1 := hv1.frozen)
    exact ⟨hk2.from _, hb2, ⟨_, hv2, by simpa [encI] using hr2, by simp⟩, hB.trans hb2⟩
  case done =>
    rintro D ys W hD rfl ⟨⟨v, hv, hrow, hnil⟩, hB⟩ hK
    have hc := hv.cell
    gi_wp2
    refine ⟨by simp, .inl ⟨_, _, rfl, run_takeDeferred hK, ?_⟩⟩
    exact ⟨_, results_tmp rfl _ _ _, v, rfl, ownsRow_putObj hrow _ hK rfl, hnil, hB.trans (belowK_b (w := w) (Nat.le_refl _) W D _ _ (by simp at hD; omega) hK rfl rfl)⟩
  case stop =>
    rintro D c pre W _ _ h _
    exact h.elim
end Go.Proofs.Ytomekndinopoaaa.chain
namespace Go.Proofs.Ytomekndinopoaaa.chain
open Go.ChangeShapes Go.WideShapes Go.ChangeAt Go.RowKit Go.Shelf Go.Sort
open Go.Proofs.Ytomekndinopoaaa.tm Go.Proofs.Ytomekndinopoaaa.opened Go.Proofs.Ytomekndinopoaaa.block Go.Proofs.Ytomekndinopoaaa.stamp

theorem flat_get (M : List TI) : ∀ t, t < M.length * 5 → (M.flatMap encI)[t]? = some ((encI M[t / 5]!)[t % 5]!) := by
  induction M with
  | nil => intro t h; simp at h
  | cons x r ih =>
    intro t h
    have h5 : (encI x).length = 5 := rfl
    rw [List.flatMap_cons]
    by_cases ht : t < 5
    · rw [List.getElem?_append_left (by rw [h5]; exact ht), show t / 5 = 0 by omega, show t % 5 = t by omega]
      rw [List.getElem?_eq_getElem (by rw [h5]; exact ht)]
      simp only [List.getElem!_cons_zero]
      rw [getElem!_pos _ t (by rw [h5]; exact ht)]
    · rw [List.getElem?_append_right (by rw [h5]; omega), h5, ih (t - 5) (by simp at h; omega)]
      rw [show t / 5 = (t - 5) / 5 + 1 by omega, show (t - 5) % 5 = t % 5 by omega, List.getElem!_cons_succ]
theorem lt_of_holds {w : World} {b : Nat} (N : List TI) (h : HoldsK encI 5 w b 0 N.toArray) (hb : b < w.heap.size) : Lt w (some ⟨b, 0, none⟩) (N.map (·.1)) := by
  refine .inr ⟨b, 0, rfl, hb, fun i x hx => ?_⟩
  simp only [List.map_map, List.getElem?_map, Option.map_eq_some_iff] at hx
  obtain ⟨y, hy, rfl⟩ := hx
  refine ⟨rfl, fun j hj => ?_⟩
  obtain ⟨hi, hy⟩ := List.getElem?_eq_some_iff.1 hy
  have hc := (h.cell (i := i) (c := j) (by simpa using hi) hj).1
  rw [← Nat.add_assoc, hc]
  rw [show N.toArray[i]! = y by simp [hi, hy]]
  show some ((cT y.1)[j]!) = (cT y.1)[j]?
  rw [List.getElem?_eq_getElem (show j < (cT y.1).length from hj), getElem!_pos _ j (show j < (cT y.1).length from hj)]
theorem holds_of_own {w : World} {base : Nat} {v : Value} {M : List TI} (h : w.ownsRow base 33 5 v M.length (M.flatMap encI)) : (v = .slice none 0 0 ∧ M = []) ∨ ∃ g cap, v = .slice (some ⟨g, 0, none⟩) M.length cap ∧ base ≤ g ∧ g < w.heap.size ∧ HoldsK encI 5 w g 0 M.toArray := by
  rcases h.2 with ⟨hv, hn⟩ | ⟨g, cap, cur, hv, hb, hg, hc, hcm, hs, ht⟩
  · exact .inl ⟨hv, List.eq_nil_of_length_eq_zero hn⟩
  · refine .inr ⟨g, cap, hv, hb, (Array.getElem?_eq_some_iff.1 hg).1, fun t ht' => ?_⟩
    have ht2 : t < M.length * 5 := by simpa using ht'
    have e := flat_get M t ht2
    rw [← ht, List.getElem?_take, if_pos ht2, Array.getElem?_toList] at e
    rw [get_flatK _ _ _ _ (by simpa using ht2)]
    constructor
    · simp [World.cell?, hg, e]
    · simp [World.frozen?, hg]
/-- The list, sorted. -/
def srtL (L : List Tm) (h : InL L) : List Tm := (srt (tis L h)).map (·.1)
theorem srtL_len (L : List Tm) (h : InL L) : (srtL L h).length = L.length := by simp [srtL, srt, tis_len]
set_option maxRecDepth 100000 in
theorem collect_any (Bs : Nat) (A : Option Addr) (cap : Nat) (L : List Tm) (iL : InL L) (mL : L.length ≤ 4096) (w : World) (hBs : Bs < w.heap.size) (hc : w.cell? ⟨Bs, 0, none⟩ = some (.slice A L.length cap)) (hL : Lt w A L) :
    Calls Try.prog 77 #[.func (.func 100) #[] #[.pointer (some ⟨Bs, 0, none⟩)]] w fun e W' => ∃ v, e = .returned v ∧ W'.ownsRow w.heap.size 33 5 v L.length ((tis L iL).flatMap encI) ∧ Below w.heap.size w W' := by
  have K := callsIn_wide.1 (appendSeq Fence.wide 4 trivial 100 #[.pointer (some ⟨Bs, 0, none⟩)] trivial (enters_of Try.func100 (by kernel_rfl) rfl) rfl (by omega) (tis L iL) (by rw [tis_len]; exact mL) w
    (values_stops Fence.wide 3 trivial rfl (by omega) Bs w.heap.size A cap L iL (by omega) w hBs (Nat.le_refl _) hc hL hL.inside))
  rw [tis_len] at K
  go_enter Try.func77, Try.ntmps77
  go_wp2_with fail
  refine K.mono ?_
  rintro e w4 ⟨v, rfl, ho, -, b4⟩
  go_wp2_with fail
  go_ret
  exact ⟨v, rfl, ho, b4⟩
theorem below_sorted {w0 w : World} {B g n : Nat} {d : Array TI} {os : Array Obj} (h : Below B w0 w) (hg : B ≤ g) (hB : B ≤ w.heap.size) : Below B w0 (sortWorldK encI 5 w g 0 n d os) := by
  have hsz : (putRowK encI 5 (Sort.ahead w n) g 0 d).heap.size = w.heap.size := by simp [putRowK, putRow, mapBlock, Sort.ahead]
  have h1 : Below B w0 (putRowK encI 5 (Sort.ahead w n) g 0 d) := ⟨h.os, h.tape, h.output, by rw [hsz]; exact h.size, fun k hk => by
    rw [← h.block k hk]
    have hne : g ≠ k := by omega
    simp [putRowK, putRow, mapBlock, Sort.ahead, Array.getElem?_modify, hne]⟩
  exact h1.trans ((below_grown (putRowK encI 5 (Sort.ahead w n) g 0 d) 0 os).mono (by rw [hsz]; exact hB))
set_option maxRecDepth 100000 in
theorem sortedFunc_any (Bs : Nat) (A : Option Addr) (cap : Nat) (L : List Tm) (iL : InL L) (mL : L.length ≤ 4096) (w : World) (hBs : Bs < w.heap.size) (hc : w.cell? ⟨Bs, 0, none⟩ = some (.slice A L.length cap)) (hL : Lt w A L) :
    Calls Try.prog 60 #[.func (.func 100) #[] #[.pointer (some ⟨Bs, 0, none⟩)], .func (.func 62) #[] #[]] w fun e W' => ∃ B c, e = .returned (.slice B L.length c) ∧ Lt W' B (srtL L iL) ∧ Below w.heap.size w W' := by
  have K := Lib.hid (collect_any Bs A cap L iL mL w hBs hc hL)
  have S0 := Lib.hid sort_none
  have S1 := Lib.hid sort_any
  have hlen := Lib.hid (tis_len L iL)
  rw [← hlen.out] at K ⊢
  go_enter Try.func60, Try.ntmps60
  go_wp2_with fail
  refine K.out.mono ?_
  rintro e w4 ⟨v, rfl, ho, b4⟩
  rcases holds_of_own ho with ⟨rfl, hM⟩ | ⟨g, cap', rfl, hg, hgl, hH⟩
  · clear ho
    go_wp2_with fail
    refine (S0.out _ _ _).mono ?_
    rintro e w5 ⟨rfl, rfl⟩
    go_wp2_with fail
    go_ret
    exact ⟨none, 0, by rw [hM]; rfl, by rw [show srtL L iL = [] by simp [srtL, hM, srt]]; exact Lt.nil _ _, b4⟩
  · clear ho
    have S2 := Lib.hid (S1.out g 0 cap' (tis L iL) w4 hH hgl (by have := hlen.out; omega))
    have H5 := Lib.hid (fun n os => holdsK_sortWorldK_c encI 5 w4 g 0 (tis L iL).toArray (srt (tis L iL)).toArray n os hH hgl (by simp [srt]))
    have B5 := Lib.hid (fun n os => below_sorted (n := n) (d := (srt (tis L iL)).toArray) (os := os) b4 hg b4.size)
    clear hH S1 S0
    go_wp2_with fail
    refine S2.out.mono ?_
    rintro e w5 ⟨rfl, n, os, rfl⟩
    have H6 := H5.out n os
    have B6 := B5.out n os
    have G6 : g < (sortWorldK encI 5 w4 g 0 n (srt (tis L iL)).toArray os).heap.size := Nat.lt_of_lt_of_le hgl (size_sortWorldK_c encI 5 w4 g 0 n _ os)
    clear H5 B5 S2
    generalize sortWorldK encI 5 w4 g 0 n (srt (tis L iL)).toArray os = w6 at H6 B6 G6 ⊢
    go_wp2_with fail
    go_ret
    exact ⟨_, _, rfl, lt_of_holds _ H6 G6, B6⟩
end Go.Proofs.Ytomekndinopoaaa.chain
