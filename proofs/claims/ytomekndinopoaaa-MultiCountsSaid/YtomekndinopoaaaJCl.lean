/-
  maps.Clone at the map of a Multi.
  slices.Clone at times.
-/
import Derived.Test.YtomekndinopoaaaJSmQ
import Derived.Shelf.SlMaps.Clone
import Derived.Test.YtomekndinopoaaaJOw
import Derived.Lib.SliceRun
namespace Go.Proofs.Ytomekndinopoaaa.multi
open Go.ChangeShapes Go.WideShapes Go.ChangeAt Go.RowKit Go.Maps Go.WideMaps
open Go.Proofs.Ytomekndinopoaaa.tm Go.Proofs.Ytomekndinopoaaa.opened Go.Proofs.Ytomekndinopoaaa.block Go.Proofs.Ytomekndinopoaaa.stamp Go.Proofs.Ytomekndinopoaaa.chain

set_option maxRecDepth 100000 in
set_option maxHeartbeats 2000000 in
theorem clone_map (b : Nat) (es : Array MapEntry) (clock : Nat) (w : World) (hb : w.heap[b]? = some (.map es clock)) :
    Calls Try.prog 42 #[.map (some b)] w fun e w' => e = .returned (.map (some w.heap.size)) ∧ w' = w.alloc (.map es clock) := by
  have hq := fun w => run_eql_map_nil_sl (P := Try.prog) w 72 _ _ (some b) Try.underlying72
  go_enter Try.func42, Try.ntmps42
  go_wp2
  rw [run_callFunc_extern Try.func69 (by kernel_rfl) (by kernel_rfl) (by kernel_rfl) (e := Extern.MapsClone.clone) (by kernel_rfl), run_maps_clone_sl w 72 hb]
  simp only [Result.andThen]
  rw [Oper.upon_value]
  go_wp2
  rw [run_typeAssert_map_sl _ 72 _ _ _ _ Try.underlying72]
  simp only [Result.andThen]
  rw [Oper.upon_value]
  go_wp2
  go_ret
  exact ⟨rfl, rfl⟩
theorem clone_own {b : Nat} {M : List TN} (w : World) (h : OwnM w b M) :
    Calls Try.prog 42 #[.map (some b)] w fun e w' => e = .returned (.map (some w.heap.size)) ∧ OwnM w' w.heap.size M ∧ Below w.heap.size w w' := by
  obtain ⟨es0, hp, ho⟩ := h
  have hlt := ho.lt
  obtain ⟨es, clock, hb, F, hs, hD⟩ := ho
  refine (clone_map b es clock w hb).mono fun e w' ⟨he, hw⟩ => ?_
  subst hw
  exact ⟨he, ⟨es0, hp, es, clock, (MapKept.heap_alloc w _).1, F, hs, hD⟩, (Below.refl _ w).alloc (Nat.le_refl _) _⟩
end Go.Proofs.Ytomekndinopoaaa.multi
namespace Go.Proofs.Ytomekndinopoaaa.multi
open Go.ChangeShapes Go.WideShapes Go.ChangeAt Go.RowKit
open Go.Proofs.Ytomekndinopoaaa.tm Go.Proofs.Ytomekndinopoaaa.opened Go.Proofs.Ytomekndinopoaaa.block Go.Proofs.Ytomekndinopoaaa.stamp Go.Proofs.Ytomekndinopoaaa.chain

set_option maxRecDepth 100000 in
theorem cloneT_any (A : Option Addr) (c : Nat) (L : List Tm) (mL : L.length ≤ 4096) (w : World) (hL : Lt w A L) :
    Calls Try.prog 43 #[.slice A L.length c] w fun e W' => ∃ B c', e = .returned (.slice B L.length c') ∧ Lt W' B L ∧ Below w.heap.size w W' := by
  obtain ⟨i0, hi0, hz0, hz1, hz2⟩ := info_parts infoT
  cases L with
  | nil =>
    clear hL
    cases A with
    | none =>
      have hq := fun W => Lib.run_eql_slice_nil (P := Try.prog) W 37 33 none 0 c 0 0 Try.underlying37
      go_enter Try.func43, Try.ntmps43
      go_wp2_with fail
      go_ret
      exact ⟨_, _, rfl, Lt.nil _ _, Below.refl _ _⟩
    | some ad =>
      have HO := Lib.hid (own0 w)
      have hq := fun W => Lib.run_eql_slice_nil (P := Try.prog) W 37 33 (some ad) 0 c 0 0 Try.underlying37
      go_enter Try.func43, Try.ntmps43
      go_wp2_with (at_builtin; refine wpList_append_own _ rfl _ _ 37 rfl w.heap.size 33 i0 (.agg #[.int .u32 T0.e, .int .i64 T0.d, .int .u32 T0.a, .int .u32 T0.b, .int .u32 T0.c]) 5 32 Try.underlying37 hi0 hz0 hz1 hz2 rfl (by decide) _ 0 [] rfl HO.out ad 0 _ [] rfl (by simp) (by intro j u hj; simp at hj) (by simp) (by simp [maxLen]) (by omega) (by simp) ?_; intro v' w5 hown' hgrow _; have b5 := Lib.hid (((Below.refl w.heap.size w).alloc (Nat.le_refl _) (.cells #[] 33)).grown hgrow (by simp) (fun j ej => by cases ej; exact Nat.le_refl _)); have HO5 : Hid (OwnT w5 w.heap.size v' []) := Lib.hid (by unfold OwnT; simpa using hown'); obtain ⟨B4, c4, hv5⟩ := HO5.out.shape; subst hv5; clear hown' hgrow)
      go_ret
      exact ⟨_, ⟨_, rfl⟩, HO5.out.lies, b5.out⟩
  | cons x r =>
    obtain ⟨b, off, rfl, hb, -⟩ := hL.at (k := 0) (t := x) rfl
    have HC := Lib.hid (lt_flat (hL.below (fresh1 w (.cells #[] 33))))
    have HO := Lib.hid (own0 w)
    generalize x :: r = L at mL HC hL
    clear hL
    have hq := fun W => Lib.run_eql_slice_nil (P := Try.prog) W 37 33 (some ⟨b, off, none⟩) L.length c 0 0 Try.underlying37
    go_enter Try.func43, Try.ntmps43
    go_wp2_with (at_builtin; refine wpList_append_own _ rfl _ _ 37 rfl w.heap.size 33 i0 (.agg #[.int .u32 T0.e, .int .i64 T0.d, .int .u32 T0.a, .int .u32 T0.b, .int .u32 T0.c]) 5 32 Try.underlying37 hi0 hz0 hz1 hz2 rfl (by decide) _ 0 [] rfl HO.out ⟨b, off, none⟩ L.length _ (L.flatMap cT) rfl (by rw [flat_len]) HC.out (one_flat _) (by simp [maxLen]; omega) (by omega) (by simp) ?_; intro v' w5 hown' hgrow _; have b5 := Lib.hid (((Below.refl w.heap.size w).alloc (Nat.le_refl _) (.cells #[] 33)).grown hgrow (by simp) (fun j ej => by cases ej; exact Nat.le_refl _)); have HO5 : Hid (OwnT w5 w.heap.size v' L) := Lib.hid (by unfold OwnT; simpa using hown'); obtain ⟨B4, c4, hv5⟩ := HO5.out.shape; subst hv5; clear hown' hgrow)
    go_ret
    exact ⟨_, _, rfl, HO5.out.lies, b5.out⟩
end Go.Proofs.Ytomekndinopoaaa.multi
