/-
  The contract of stamp.parseParts: a time out of numbers in writing.
-/
import Derived.Test.YtilkdpobkcocoaaDoorTxt
import Derived.Lib.ParseIntBCases
namespace Go.Proofs.YtilkdpobkcocoaaDoor.stamp
open Go.ChangeShapes Go.WideShapes Go.ChangeAt Go.RowKit
open Go.Proofs.YtilkdpobkcocoaaDoor.tm Go.Proofs.YtilkdpobkcocoaaDoor.opened Go.Proofs.YtilkdpobkcocoaaDoor.block Go.Proofs.YtilkdpobkcocoaaDoor.code

/-- The number that a text spells, if it spells one that 32 bits hold. -/
def pv (x : List UInt8) : Option Nat := match Lib.parseUintB 32 x with
  | .ok u => some u
  | _ => none
theorem pv_lt {x : List UInt8} {u : Nat} (h : pv x = some u) : u ≤ 4294967295 := by
  unfold pv at h
  split at h
  · rename_i v hv
    simp at h
    subst h
    exact Lib.parseUintB_le hv
  · cases h
def vals : List (List UInt8) → Option (List Int)
  | [] => some []
  | x :: r => match pv x, vals r with
    | some u, some l => some ((u : Int) :: l)
    | _, _ => none
theorem vals_snoc {xs : List (List UInt8)} {x : List UInt8} {u : Nat} : ∀ {l : List Int}, vals xs = some l → pv x = some u → vals (xs ++ [x]) = some (l ++ [(u : Int)]) := by
  induction xs with
  | nil => intro l h hx; simp [vals] at h; subst h; simp [vals, hx]
  | cons y r ih =>
    intro l h hx
    simp only [vals] at h
    split at h
    · rename_i v m hv hm
      simp at h
      subst h
      simp [vals, hv, ih hm hx]
    · cases h
theorem vals_none {xs : List (List UInt8)} {x : List UInt8} (hx : x ∈ xs) (h : pv x = none) : vals xs = none := by
  induction xs with
  | nil => cases hx
  | cons y r ih =>
    rcases List.mem_cons.1 hx with rfl | hr
    · simp [vals, h]
    · simp only [vals]
      rw [ih hr]
      split
      · rename_i h2; cases h2
      · rfl
def ptm (d : Int) (l : List Int) : Tm := ⟨l.getD 0 0, d, l.getD 1 0, l.getD 2 0, l.getD 3 0⟩
def ppV (xs : List (List UInt8)) : Tm := if xs.length ≤ 4 then (match vals xs with
  | some l => ptm ((xs.length : Int) - 1) l
  | none => T0) else T0
def ppB (xs : List (List UInt8)) : Bool := decide (xs.length ≤ 4) && (vals xs).isSome
theorem uint_ok (x : List UInt8) (hx : x.length ≤ 5000) (u : Nat) (h : pv x = some u) (w : World) : Calls Tryd.prog 72 #[.string ⟨x.toArray⟩, .int .i64 10, .int .i64 32] w fun e w' => e = .returned (.tuple #[.int .u64 u, .nilIface]) ∧ Below w.heap.size w w' := by
  have h2 : Lib.parseUintB 32 x = .ok u := by
    unfold pv at h
    split at h
    · rename_i v hv; simp at h; rw [hv, h]
    · cases h
  refine (Any.strconv_ParseUint_10_at32_ok Tryd.laysPu14 ⟨x.toArray⟩ (by show x.toArray.size ≤ _; simp; omega) u h2 w).mono fun e w' ⟨he, hw⟩ => ⟨he, ?_⟩
  rcases hw with rfl | rfl
  · exact Below.refl _ _
  · exact Lib.bytesWorld_below _ _ _
theorem uint_no (x : List UInt8) (hx : x.length ≤ 5000) (h : pv x = none) (w : World) (hE : Env w) : Calls Tryd.prog 72 #[.string ⟨x.toArray⟩, .int .i64 10, .int .i64 32] w fun e w' => ∃ (v : Int) (N : Nat), e = .returned (.tuple #[.int .u64 v, .iface 141 (.pointer (some ⟨N, 0, none⟩))]) ∧ Below w.heap.size w w' := by
  have hs : (⟨x.toArray⟩ : ByteArray).size ≤ 281474976710656 := by show x.toArray.size ≤ _; simp; omega
  obtain ⟨t1, p1, h1⟩ := hE.syn
  obtain ⟨t2, p2, h2⟩ := hE.rng
  rcases hp : Lib.parseUintB 32 x with u | _ | _
  · simp [pv, hp] at h
  · exact (Any.strconv_ParseUint_10_at32_syntax_var Tryd.laysPu14 ⟨x.toArray⟩ hs hp t1 p1 w h1).mono fun e w' ⟨N, he, _, _, hb⟩ => ⟨0, N, he, hb⟩
  · exact (Any.strconv_ParseUint_10_at32_range_var Tryd.laysPu14 ⟨x.toArray⟩ hs hp t2 p2 w h2).mono fun e w' ⟨N, he, _, _, hb⟩ => ⟨4294967295, N, he, hb⟩
theorem ppV_none {xs : List (List UInt8)} (h : vals xs = none) : ppV xs = T0 := by
  unfold ppV
  split
  · rw [h]
  · rfl
theorem ppB_none {xs : List (List UInt8)} (h : vals xs = none) : ppB xs = false := by simp [ppB, h]
theorem ppV_some {xs : List (List UInt8)} {l : List Int} (h4 : xs.length ≤ 4) (h : vals xs = some l) : ppV xs = ptm ((xs.length : Int) - 1) l := by
  unfold ppV
  rw [if_pos h4, h]
theorem ppB_some {xs : List (List UInt8)} {l : List Int} (h4 : xs.length ≤ 4) (h : vals xs = some l) : ppB xs = true := by simp [ppB, h, h4]
theorem five' {w : World} {g : Nat} {a b c d e : Value} (h : Whole w g 25 #[a, b, c, d, e]) (v0 v1 v2 v3 v4 : Value) :
    Whole (((((w.setCell ⟨g, 0, none⟩ v0).setCell ⟨g, 1, none⟩ v1).setCell ⟨g, 2, none⟩ v2).setCell ⟨g, 3, none⟩ v3).setCell ⟨g, 4, none⟩ v4) g 25 #[v0, v1, v2, v3, v4] := ((((h.store 0 v0).store 1 v1).store 2 v2).store 3 v3).store 4 v4
theorem isDepthN_no (d : Int) (h : 3 < d) (w : World) : Calls Tryd.prog 50 #[.int .i64 d] w fun e w' => e = .returned (.bool false) ∧ w = w' := isDepth_no d (.inr h) w
theorem parts_long (xs : List (List UInt8)) (b c : Nat) (h5 : xs.length = 5) (w : World) :
    Calls Tryd.prog 44 #[.slice (some ⟨b, 0, none⟩) 5 c] w fun e w' => e = .returned (.tuple #[.agg #[.int .u32 (ppV xs).e, .int .i64 (ppV xs).d, .int .u32 (ppV xs).a, .int .u32 (ppV xs).b, .int .u32 (ppV xs).c], .bool (ppB xs)]) ∧ Below w.heap.size w w' := by
  rw [show ppV xs = T0 by unfold ppV; rw [if_neg (by omega)], show ppB xs = false by simp [ppB, h5]]
  clear h5
  go_enter Tryd.func44, Tryd.ntmps44
  go_wp2_with (go_at_call 50; refine (isDepth_no _ (by omega) _).mono ?_; rintro e w' ⟨rfl, rfl⟩)
  exact bodyPost_ret (v := .tuple #[.agg #[.int .u32 T0.e, .int .i64 T0.d, .int .u32 T0.a, .int .u32 T0.b, .int .u32 T0.c], .bool false]) (by simp [results, Tryd.results44, go_sem, T0]) rfl ⟨rfl, by
    repeat (with_reducible refine Below.setCell ?_ (by simp) _)
    exact fresh2 _ _ _⟩
set_option maxRecDepth 100000 in
set_option maxHeartbeats 4000000 in
theorem parts_short (xs : List (List UInt8)) (b c : Nat) (h1 : 1 ≤ xs.length) (h4 : xs.length ≤ 4) (w : World) (hE : Env w) (hcells : ∀ (j : Nat) x, xs[j]? = some x → w.cell? ⟨b, j, none⟩ = some (.string ⟨x.toArray⟩)) (hx : ∀ x ∈ xs, x.length ≤ 5000) :
    Calls Tryd.prog 44 #[.slice (some ⟨b, 0, none⟩) xs.length c] w fun e w' => e = .returned (.tuple #[.agg #[.int .u32 (ppV xs).e, .int .i64 (ppV xs).d, .int .u32 (ppV xs).a, .int .u32 (ppV xs).b, .int .u32 (ppV xs).c], .bool (ppB xs)]) ∧ Below w.heap.size w w' := by
  have HC := Lib.hid hcells
  have HX := Lib.hid hx
  have HE := Lib.hid hE
  clear hcells hx hE
  generalize hn : xs.length = n at h1 h4
  have HNN := Lib.hid hn
  clear hn
  go_enter Tryd.func44, Tryd.ntmps44
  go_wp2_with (go_at_call 50; refine (isDepth_yes _ (by omega) (by omega) _).mono ?_; rintro e w' ⟨rfl, rfl⟩)
  have p0 : Whole ((w.alloc (.cells #[.int .u32 0, .int .i64 0, .int .u32 0, .int .u32 0, .int .u32 0] 25)).alloc (.cells #[.int .u32 0, .int .i64 ((n : Int) - 1), .int .u32 0, .int .u32 0, .int .u32 0] 25)) (w.heap.size + 1) 25 #[.int .u32 (ptm ((n : Int) - 1) []).e, .int .i64 (ptm ((n : Int) - 1) []).d, .int .u32 (ptm ((n : Int) - 1) []).a, .int .u32 (ptm ((n : Int) - 1) []).b, .int .u32 (ptm ((n : Int) - 1) []).c] := by
    have k := Whole.fresh (w.alloc (.cells #[.int .u32 0, .int .i64 0, .int .u32 0, .int .u32 0, .int .u32 0] 25)) 25 #[.int .u32 (ptm ((n : Int) - 1) []).e, .int .i64 (ptm ((n : Int) - 1) []).d, .int .u32 (ptm ((n : Int) - 1) []).a, .int .u32 (ptm ((n : Int) - 1) []).b, .int .u32 (ptm ((n : Int) - 1) []).c]
    rw [World.size_alloc] at k
    exact k
  have r0 : Whole ((w.alloc (.cells #[.int .u32 0, .int .i64 0, .int .u32 0, .int .u32 0, .int .u32 0] 25)).alloc (.cells #[.int .u32 0, .int .i64 ((n : Int) - 1), .int .u32 0, .int .u32 0, .int .u32 0] 25)) w.heap.size 25 #[.int .u32 0, .int .i64 0, .int .u32 0, .int .u32 0, .int .u32 0] := (Whole.fresh w 25 _).alloc _
  have v0 := fresh2 w (.cells #[.int .u32 0, .int .i64 0, .int .u32 0, .int .u32 0, .int .u32 0] 25) (.cells #[.int .u32 0, .int .i64 ((n : Int) - 1), .int .u32 0, .int .u32 0, .int .u32 0] 25)
  generalize hg : w.heap.size = g at p0 r0 ⊢
  have HG := Lib.hid hg
  clear hg
  go_loopw [20] (fun i wr => ∃ (k : Nat) (l : List Int), k ≤ n ∧ i = .int .i64 k ∧ l.length = k ∧ vals (xs.take k) = some l ∧ Whole wr (g + 1) 25 #[.int .u32 (ptm ((n : Int) - 1) l).e, .int .i64 (ptm ((n : Int) - 1) l).d, .int .u32 (ptm ((n : Int) - 1) l).a, .int .u32 (ptm ((n : Int) - 1) l).b, .int .u32 (ptm ((n : Int) - 1) l).c] ∧ Whole wr g 25 #[.int .u32 0, .int .i64 0, .int .u32 0, .int .u32 0, .int .u32 0] ∧ Below w.heap.size w wr) (fun i _ => n - (intOf i).toNat)
  case atStart => exact ⟨0, [], by omega, rfl, rfl, rfl, p0, r0, v0⟩
  case round =>
    clear p0 r0 v0
    obtain ⟨k, l, hk, rfl, hll, hv, ht, hr, hb⟩ := hrel
    by_cases hkn : k < n
    · have hkl : k < xs.length := by have := HNN.out; omega
      obtain ⟨x, hxk⟩ : ∃ x, xs[k]? = some x := ⟨_, List.getElem?_eq_getElem hkl⟩
      have hx5 := HX.out x (List.mem_of_getElem? hxk)
      have hc : wr.cell? ⟨b, k, none⟩ = some (.string ⟨x.toArray⟩) := by
        have h7 := HC.out k x hxk
        exact (hb.cell (p := ⟨b, k, none⟩) (World.block_lt_of_cell? w _ h7)).trans h7
      have htk : xs.take (k + 1) = xs.take k ++ [x] := by
        rw [List.take_succ_eq_append_getElem hkl]
        rw [List.getElem?_eq_getElem hkl] at hxk
        simp at hxk
        rw [hxk]
      have hen : Env wr := HE.out.below hb
      obtain rfl | rfl | rfl | rfl : k = 0 ∨ k = 1 ∨ k = 2 ∨ k = 3 := by omega
      · match l, hll with
        | [], _ =>
          cases hpv : pv x with
          | some u =>
            have hu := pv_lt hpv
            have hu0 : (0 : Int) ≤ (u : Int) := by omega
            have hu1 : (u : Int) ≤ 4294967295 := by omega
            have hnx := vals_snoc hv hpv
            rw [← htk] at hnx
            have HN := Lib.hid hnx
            have HP := Lib.hid hpv
            clear hnx hpv hv htk
            go_wp2_with fail
            refine (uint_ok x hx5 u HP.out _).mono ?_
            rintro e w4 ⟨rfl, b4⟩
            have ht4 := ht.below b4 ht.inside
            have hr4 := hr.below b4 hr.inside
            have hb4 := hb.trans (b4.mono hb.size)
            obtain ⟨pp0, pp1, pp2, pp3, pp4, ppf0, ppf1, ppf2, ppf3, ppf4⟩ := facts5' ht4
            go_wp2_with fail
            go_roundw
            case rel => exact ⟨1, [(u : Int)], by omega, by go_num, rfl, HN.out, ht4.store 0 _, hr4.aside (by simp) _, hb4.setCell (by have := HG.out; simp; omega) _⟩
            case measure => simp [intOf]; omega
          | none =>
            have hno : vals xs = none := vals_none (List.mem_of_getElem? hxk) hpv
            have HNO := Lib.hid hno
            have HP := Lib.hid hpv
            clear hno hpv hv htk
            go_wp2_with fail
            refine (uint_no x hx5 HP.out _ hen).mono ?_
            rintro e w4 ⟨v, N, rfl, b4⟩
            have ht4 := ht.below b4 ht.inside
            have hr4 := hr.below b4 hr.inside
            have hb4 := hb.trans (b4.mono hb.size)
            obtain ⟨rr0, rr1, rr2, rr3, rr4, rrf0, rrf1, rrf2, rrf3, rrf4⟩ := facts5' hr4
            go_wp2_with fail
            exact bodyPost_ret (v := .tuple #[.agg #[.int .u32 0, .int .i64 0, .int .u32 0, .int .u32 0, .int .u32 0], .bool false]) (by obtain ⟨z0, z1, z2, z3, z4, -⟩ := facts5' (five' hr4 (.int .u32 0) (.int .i64 0) (.int .u32 0) (.int .u32 0) (.int .u32 0)); simp [results, Tryd.results44, go_sem, z0, z1, z2, z3, z4]) rfl ⟨by rw [ppB_none HNO.out, ppV_none HNO.out]; rfl, by
              have := HG.out
              subst this
              repeat (with_reducible refine Below.setCell ?_ (by simp) _)
              exact hb4⟩
      · match l, hll with
        | [y0], _ =>
          cases hpv : pv x with
          | some u =>
            have hu := pv_lt hpv
            have hu0 : (0 : Int) ≤ (u : Int) := by omega
            have hu1 : (u : Int) ≤ 4294967295 := by omega
            have hnx := vals_snoc hv hpv
            rw [← htk] at hnx
            have HN := Lib.hid hnx
            have HP := Lib.hid hpv
            clear hnx hpv hv htk
            go_wp2_with fail
            refine (uint_ok x hx5 u HP.out _).mono ?_
            rintro e w4 ⟨rfl, b4⟩
            have ht4 := ht.below b4 ht.inside
            have hr4 := hr.below b4 hr.inside
            have hb4 := hb.trans (b4.mono hb.size)
            obtain ⟨pp0, pp1, pp2, pp3, pp4, ppf0, ppf1, ppf2, ppf3, ppf4⟩ := facts5' ht4
            go_wp2_with fail
            go_roundw
            case rel => exact ⟨2, [y0, (u : Int)], by omega, by go_num, rfl, HN.out, ht4.store 2 _, hr4.aside (by simp) _, hb4.setCell (by have := HG.out; simp; omega) _⟩
            case measure => simp [intOf]; omega
          | none =>
            have hno : vals xs = none := vals_none (List.mem_of_getElem? hxk) hpv
            have HNO := Lib.hid hno
            have HP := Lib.hid hpv
            clear hno hpv hv htk
            go_wp2_with fail
            refine (uint_no x hx5 HP.out _ hen).mono ?_
            rintro e w4 ⟨v, N, rfl, b4⟩
            have ht4 := ht.below b4 ht.inside
            have hr4 := hr.below b4 hr.inside
            have hb4 := hb.trans (b4.mono hb.size)
            obtain ⟨rr0, rr1, rr2, rr3, rr4, rrf0, rrf1, rrf2, rrf3, rrf4⟩ := facts5' hr4
            go_wp2_with fail
            exact bodyPost_ret (v := .tuple #[.agg #[.int .u32 0, .int .i64 0, .int .u32 0, .int .u32 0, .int .u32 0], .bool false]) (by obtain ⟨z0, z1, z2, z3, z4, -⟩ := facts5' (five' hr4 (.int .u32 0) (.int .i64 0) (.int .u32 0) (.int .u32 0) (.int .u32 0)); simp [results, Tryd.results44, go_sem, z0, z1, z2, z3, z4]) rfl ⟨by rw [ppB_none HNO.out, ppV_none HNO.out]; rfl, by
              have := HG.out
              subst this
              repeat (with_reducible refine Below.setCell ?_ (by simp) _)
              exact hb4⟩
      · match l, hll with
        | [y0, y1], _ =>
          cases hpv : pv x with
          | some u =>
            have hu := pv_lt hpv
            have hu0 : (0 : Int) ≤ (u : Int) := by omega
            have hu1 : (u : Int) ≤ 4294967295 := by omega
            have hnx := vals_snoc hv hpv
            rw [← htk] at hnx
            have HN := Lib.hid hnx
            have HP := Lib.hid hpv
            clear hnx hpv hv htk
            go_wp2_with fail
            refine (uint_ok x hx5 u HP.out _).mono ?_
            rintro e w4 ⟨rfl, b4⟩
            have ht4 := ht.below b4 ht.inside
            have hr4 := hr.below b4 hr.inside
            have hb4 := hb.trans (b4.mono hb.size)
            obtain ⟨pp0, pp1, pp2, pp3, pp4, ppf0, ppf1, ppf2, ppf3, ppf4⟩ := facts5' ht4
            go_wp2_with fail
            go_roundw
            case rel => exact ⟨3, [y0, y1, (u : Int)], by omega, by go_num, rfl, HN.out, ht4.store 3 _, hr4.aside (by simp) _, hb4.setCell (by have := HG.out; simp; omega) _⟩
            case measure => simp [intOf]; omega
          | none =>
            have hno : vals xs = none := vals_none (List.mem_of_getElem? hxk) hpv
            have HNO := Lib.hid hno
            have HP := Lib.hid hpv
            clear hno hpv hv htk
            go_wp2_with fail
            refine (uint_no x hx5 HP.out _ hen).mono ?_
            rintro e w4 ⟨v, N, rfl, b4⟩
            have ht4 := ht.below b4 ht.inside
            have hr4 := hr.below b4 hr.inside
            have hb4 := hb.trans (b4.mono hb.size)
            obtain ⟨rr0, rr1, rr2, rr3, rr4, rrf0, rrf1, rrf2, rrf3, rrf4⟩ := facts5' hr4
            go_wp2_with fail
            exact bodyPost_ret (v := .tuple #[.agg #[.int .u32 0, .int .i64 0, .int .u32 0, .int .u32 0, .int .u32 0], .bool false]) (by obtain ⟨z0, z1, z2, z3, z4, -⟩ := facts5' (five' hr4 (.int .u32 0) (.int .i64 0) (.int .u32 0) (.int .u32 0) (.int .u32 0)); simp [results, Tryd.results44, go_sem, z0, z1, z2, z3, z4]) rfl ⟨by rw [ppB_none HNO.out, ppV_none HNO.out]; rfl, by
              have := HG.out
              subst this
              repeat (with_reducible refine Below.setCell ?_ (by simp) _)
              exact hb4⟩
      · match l, hll with
        | [y0, y1, y2], _ =>
          cases hpv : pv x with
          | some u =>
            have hu := pv_lt hpv
            have hu0 : (0 : Int) ≤ (u : Int) := by omega
            have hu1 : (u : Int) ≤ 4294967295 := by omega
            have hnx := vals_snoc hv hpv
            rw [← htk] at hnx
            have HN := Lib.hid hnx
            have HP := Lib.hid hpv
            clear hnx hpv hv htk
            go_wp2_with fail
            refine (uint_ok x hx5 u HP.out _).mono ?_
            rintro e w4 ⟨rfl, b4⟩
            have ht4 := ht.below b4 ht.inside
            have hr4 := hr.below b4 hr.inside
            have hb4 := hb.trans (b4.mono hb.size)
            obtain ⟨pp0, pp1, pp2, pp3, pp4, ppf0, ppf1, ppf2, ppf3, ppf4⟩ := facts5' ht4
            go_wp2_with fail
            go_roundw
            case rel => exact ⟨4, [y0, y1, y2, (u : Int)], by omega, by go_num, rfl, HN.out, ht4.store 4 _, hr4.aside (by simp) _, hb4.setCell (by have := HG.out; simp; omega) _⟩
            case measure => simp [intOf]; omega
          | none =>
            have hno : vals xs = none := vals_none (List.mem_of_getElem? hxk) hpv
            have HNO := Lib.hid hno
            have HP := Lib.hid hpv
            clear hno hpv hv htk
            go_wp2_with fail
            refine (uint_no x hx5 HP.out _ hen).mono ?_
            rintro e w4 ⟨v, N, rfl, b4⟩
            have ht4 := ht.below b4 ht.inside
            have hr4 := hr.below b4 hr.inside
            have hb4 := hb.trans (b4.mono hb.size)
            obtain ⟨rr0, rr1, rr2, rr3, rr4, rrf0, rrf1, rrf2, rrf3, rrf4⟩ := facts5' hr4
            go_wp2_with fail
            exact bodyPost_ret (v := .tuple #[.agg #[.int .u32 0, .int .i64 0, .int .u32 0, .int .u32 0, .int .u32 0], .bool false]) (by obtain ⟨z0, z1, z2, z3, z4, -⟩ := facts5' (five' hr4 (.int .u32 0) (.int .i64 0) (.int .u32 0) (.int .u32 0) (.int .u32 0)); simp [results, Tryd.results44, go_sem, z0, z1, z2, z3, z4]) rfl ⟨by rw [ppB_none HNO.out, ppV_none HNO.out]; rfl, by
              have := HG.out
              subst this
              repeat (with_reducible refine Below.setCell ?_ (by simp) _)
              exact hb4⟩
    · have hkk : k = n := by omega
      rw [List.take_of_length_le (by have := HNN.out; omega)] at hv
      have HV := Lib.hid hv
      clear hv
      obtain ⟨pp0, pp1, pp2, pp3, pp4, ppf0, ppf1, ppf2, ppf3, ppf4⟩ := facts5' ht
      obtain ⟨rr0, rr1, rr2, rr3, rr4, rrf0, rrf1, rrf2, rrf3, rrf4⟩ := facts5' hr
      go_wp2_with fail
      exact bodyPost_ret (v := .tuple #[.agg #[.int .u32 (ptm ((n : Int) - 1) l).e, .int .i64 (ptm ((n : Int) - 1) l).d, .int .u32 (ptm ((n : Int) - 1) l).a, .int .u32 (ptm ((n : Int) - 1) l).b, .int .u32 (ptm ((n : Int) - 1) l).c], .bool true]) (by obtain ⟨z0, z1, z2, z3, z4, -⟩ := facts5' (five' hr (.int .u32 (ptm ((n : Int) - 1) l).e) (.int .i64 (ptm ((n : Int) - 1) l).d) (.int .u32 (ptm ((n : Int) - 1) l).a) (.int .u32 (ptm ((n : Int) - 1) l).b) (.int .u32 (ptm ((n : Int) - 1) l).c)); simp [results, Tryd.results44, go_sem, z0, z1, z2, z3, z4]) rfl ⟨by rw [ppV_some (by have := HNN.out; omega) HV.out, ppB_some (by have := HNN.out; omega) HV.out, HNN.out], by
        have := HG.out
        subst this
        repeat (with_reducible refine Below.setCell ?_ (by simp) _)
        exact hb⟩
end Go.Proofs.YtilkdpobkcocoaaDoor.stamp
