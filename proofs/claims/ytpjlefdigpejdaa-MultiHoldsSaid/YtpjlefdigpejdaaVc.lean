/-
  slices.Collect and slices.SortedFunc at times.
-/
import Derived.Test.YtpjlefdigpejdaaVb
namespace Go.Proofs.Ytpjlefdigpejdaa.chain
open Go.ChangeShapes Go.WideShapes Go.ChangeAt Go.RowKit Go.Shelf Go.Sort
open Go.Proofs.Ytpjlefdigpejdaa.tm Go.Proofs.Ytpjlefdigpejdaa.opened Go.Proofs.Ytpjlefdigpejdaa.block Go.Proofs.Ytpjlefdigpejdaa.stamp

theorem flat_get (M : List TI) : ∀ t, t < M.length * 5 → (M.flatMap encI)[t]? = some ((encI M[t / 5]!)[t % 5]!) := by
  induction M with
  | nil => intro t h; simp at h
  | cons x r ih =>
    intro t h
    have h5 : (encI x).length = 5 := rfl
    rw [List.flatMap_cons]
    by_cases ht : t < 5
    · rw [List.getElem?_append_left (by rw [h5]; exact ht), show t / 5 = 0 by omega, show t % 5 = t by omega]
      rw [List.getElem?_eq_getElem (by rw [h5]; exact ht)]
      simp only [List.getElem!_cons_zero]
      rw [getElem!_pos _ t (by rw [h5]; exact ht)]
    · rw [List.getElem?_append_right (by rw [h5]; omega), h5, ih (t - 5) (by simp at h; omega)]
      rw [show t / 5 = (t - 5) / 5 + 1 by omega, show (t - 5) % 5 = t % 5 by omega, List.getElem!_cons_succ]
theorem lt_of_holds {w : World} {b : Nat} (N : List TI) (h : HoldsK encI 5 w b 0 N.toArray) (hb : b < w.heap.size) : Lt w (some ⟨b, 0, none⟩) (N.map (·.1)) := by
  refine .inr ⟨b, 0, rfl, hb, fun i x hx => ?_⟩
  simp only [List.map_map, List.getElem?_map, Option.map_eq_some_iff] at hx
  obtain ⟨y, hy, rfl⟩ := hx
  refine ⟨rfl, fun j hj => ?_⟩
  obtain ⟨hi, hy⟩ := List.getElem?_eq_some_iff.1 hy
  have hc := (h.cell (i := i) (c := j) (by simpa using hi) hj).1
  rw [← Nat.add_assoc, hc]
  rw [show N.toArray[i]! = y by simp [hi, hy]]
  show some ((cT y.1)[j]!) = (cT y.1)[j]?
  rw [List.getElem?_eq_getElem (show j < (cT y.1).length from hj), getElem!_pos _ j (show j < (cT y.1).length from hj)]
theorem holds_of_own {w : World} {base : Nat} {v : Value} {M : List TI} (h : w.ownsRow base 33 5 v M.length (M.flatMap encI)) : (v = .slice none 0 0 ∧ M = []) ∨ ∃ g cap, v = .slice (some ⟨g, 0, none⟩) M.length cap ∧ base ≤ g ∧ g < w.heap.size ∧ HoldsK encI 5 w g 0 M.toArray := by
  rcases h.2 with ⟨hv, hn⟩ | ⟨g, cap, cur, hv, hb, hg, hc, hcm, hs, ht⟩
  · exact .inl ⟨hv, List.eq_nil_of_length_eq_zero hn⟩
  · refine .inr ⟨g, cap, hv, hb, (Array.getElem?_eq_some_iff.1 hg).1, fun t ht' => ?_⟩
    have ht2 : t < M.length * 5 := by simpa using ht'
    have e := flat_get M t ht2
    rw [← ht, List.getElem?_take, if_pos ht2, Array.getElem?_toList] at e
    rw [get_flatK _ _ _ _ (by simpa using ht2)]
    constructor
    · simp [World.cell?, hg, e]
    · simp [World.frozen?, hg]
/-- The list, sorted. -/
def srtL (L : List Tm) (h : InL L) : List Tm := (srt (tis L h)).map (·.1)
theorem srtL_len (L : List Tm) (h : InL L) : (srtL L h).length = L.length := by simp [srtL, srt, tis_len]
set_option maxRecDepth 100000 in
theorem collect_any (Bs : Nat) (A : Option Addr) (cap : Nat) (L : List Tm) (iL : InL L) (mL : L.length ≤ 4096) (w : World) (hBs : Bs < w.heap.size) (hc : w.cell? ⟨Bs, 0, none⟩ = some (.slice A L.length cap)) (hL : Lt w A L) :
    Calls Try.prog 100 #[.func (.func 126) #[] #[.pointer (some ⟨Bs, 0, none⟩)]] w fun e W' => ∃ v, e = .returned v ∧ W'.ownsRow w.heap.size 33 5 v L.length ((tis L iL).flatMap encI) ∧ Below w.heap.size w W' := by
  have K := callsIn_wide.1 (appendSeq Fence.wide 4 trivial 126 #[.pointer (some ⟨Bs, 0, none⟩)] trivial (enters_of Try.func126 (by kernel_rfl) rfl) rfl (by omega) (tis L iL) (by rw [tis_len]; exact mL) w
    (values_stops Fence.wide 3 trivial rfl (by omega) Bs w.heap.size A cap L iL (by omega) w hBs (Nat.le_refl _) hc hL hL.inside))
  rw [tis_len] at K
  go_enter Try.func100, Try.ntmps100
  go_wp2_with fail
  refine K.mono ?_
  rintro e w4 ⟨v, rfl, ho, -, b4⟩
  go_wp2_with fail
  go_ret
  exact ⟨v, rfl, ho, b4⟩
theorem below_sorted {w0 w : World} {B g n : Nat} {d : Array TI} {os : Array Obj} (h : Below B w0 w) (hg : B ≤ g) (hB : B ≤ w.heap.size) : Below B w0 (sortWorldK encI 5 w g 0 n d os) := by
  have hsz : (putRowK encI 5 (Sort.ahead w n) g 0 d).heap.size = w.heap.size := by simp [putRowK, putRow, mapBlock, Sort.ahead]
  have h1 : Below B w0 (putRowK encI 5 (Sort.ahead w n) g 0 d) := ⟨h.os, h.tape, h.output, by rw [hsz]; exact h.size, fun k hk => by
    rw [← h.block k hk]
    have hne : g ≠ k := by omega
    simp [putRowK, putRow, mapBlock, Sort.ahead, Array.getElem?_modify, hne]⟩
  exact h1.trans ((below_grown (putRowK encI 5 (Sort.ahead w n) g 0 d) 0 os).mono (by rw [hsz]; exact hB))
set_option maxRecDepth 100000 in
theorem sortedFunc_any (Bs : Nat) (A : Option Addr) (cap : Nat) (L : List Tm) (iL : InL L) (mL : L.length ≤ 4096) (w : World) (hBs : Bs < w.heap.size) (hc : w.cell? ⟨Bs, 0, none⟩ = some (.slice A L.length cap)) (hL : Lt w A L) :
    Calls Try.prog 74 #[.func (.func 126) #[] #[.pointer (some ⟨Bs, 0, none⟩)], .func (.func 76) #[] #[]] w fun e W' => ∃ B c, e = .returned (.slice B L.length c) ∧ Lt W' B (srtL L iL) ∧ Below w.heap.size w W' := by
  have K := Lib.hid (collect_any Bs A cap L iL mL w hBs hc hL)
  have S0 := Lib.hid sort_none
  have S1 := Lib.hid sort_any
  have hlen := Lib.hid (tis_len L iL)
  rw [← hlen.out] at K ⊢
  go_enter Try.func74, Try.ntmps74
  go_wp2_with fail
  refine K.out.mono ?_
  rintro e w4 ⟨v, rfl, ho, b4⟩
  rcases holds_of_own ho with ⟨rfl, hM⟩ | ⟨g, cap', rfl, hg, hgl, hH⟩
  · clear ho
    go_wp2_with fail
    refine (S0.out _ _ _).mono ?_
    rintro e w5 ⟨rfl, rfl⟩
    go_wp2_with fail
    go_ret
    exact ⟨none, 0, by rw [hM]; rfl, by rw [show srtL L iL = [] by simp [srtL, hM, srt]]; exact Lt.nil _ _, b4⟩
  · clear ho
    have S2 := Lib.hid (S1.out g 0 cap' (tis L iL) w4 hH hgl (by have := hlen.out; omega))
    have H5 := Lib.hid (fun n os => holdsK_sortWorldK_c encI 5 w4 g 0 (tis L iL).toArray (srt (tis L iL)).toArray n os hH hgl (by simp [srt]))
    have B5 := Lib.hid (fun n os => below_sorted (n := n) (d := (srt (tis L iL)).toArray) (os := os) b4 hg b4.size)
    clear hH S1 S0
    go_wp2_with fail
    refine S2.out.mono ?_
    rintro e w5 ⟨rfl, n, os, rfl⟩
    have H6 := H5.out n os
    have B6 := B5.out n os
    have G6 : g < (sortWorldK encI 5 w4 g 0 n (srt (tis L iL)).toArray os).heap.size := Nat.lt_of_lt_of_le hgl (size_sortWorldK_c encI 5 w4 g 0 n _ os)
    clear H5 B5 S2
    generalize sortWorldK encI 5 w4 g 0 n (srt (tis L iL)).toArray os = w6 at H6 B6 G6 ⊢
    go_wp2_with fail
    go_ret
    exact ⟨_, _, rfl, lt_of_holds _ H6 G6, B6⟩
end Go.Proofs.Ytpjlefdigpejdaa.chain
