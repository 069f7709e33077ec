/-
  Copies of lists of records: the contracts of watershedlaw11.own and slices.Clone.
-/
import Derived.Test.YtfjfohkdlikpiaaDoorDe
import Derived.WalkMore
import Derived.Lib.SliceRun
namespace Go.Proofs.YtfjfohkdlikpiaaDoor.data
open Go.ChangeShapes Go.WideShapes Go.ChangeAt Go.RowKit
open Go.Proofs.YtfjfohkdlikpiaaDoor.opened Go.Proofs.YtfjfohkdlikpiaaDoor.block Go.Proofs.YtfjfohkdlikpiaaDoor.region

theorem lr_flat {w : World} {L : List Rc} {b off : Nat} (h : Lr w (some ⟨b, off, none⟩) L) : ∀ j u, (L.flatMap cR)[j]? = some u → w.cell? ((⟨b, off, none⟩ : Addr).add j) = some u := by
  intro j u hj
  have hlt : j < L.length * 2 := by rw [← flatG_len cellsR]; exact (List.getElem?_eq_some_iff.1 hj).1
  obtain ⟨y, hy, -⟩ := get_ltR (L := L) (i := j / 2) (by omega)
  have e := flatG_at cellsR L (j / 2) y (j % 2) hy (Nat.mod_lt _ (by omega))
  rw [show j / 2 * 2 + j % 2 = j by omega, hj] at e
  rcases h with h | ⟨b', o', hA, -, hc⟩
  · have : L = [] := by simpa using h
    subst this
    simp at hy
  · injection (Option.some.inj hA) with e1 e2
    subst e1 e2
    have := (hc (j / 2) (cR y) (by rw [List.getElem?_map, hy]; rfl)).2 (j % 2) (Nat.mod_lt _ (by omega))
    rw [show j / 2 * 2 + j % 2 = j by omega, ← e] at this
    rw [show (⟨b, off, none⟩ : Addr).add j = ⟨b, off + j, none⟩ by cases j <;> simp [Addr.add]]
    exact this
theorem one_flatR (L : List Rc) : ∀ v ∈ L.flatMap cR, v.oneCell' = true := by
  intro v hv
  obtain ⟨x, -, hx⟩ := List.mem_flatMap.1 hv
  exact cellsR.one x v hx
theorem own0 (W : World) : OwnR (W.alloc (.cells #[] 34)) W.heap.size (.slice (some ⟨W.heap.size, 0, none⟩) 0 0) [] := ⟨rfl, .inr ⟨W.heap.size, 0, #[], rfl, Nat.le_refl _, heap_alloc_new W _, Nat.le_refl _, by simp [maxLen], rfl, rfl⟩⟩
set_option maxRecDepth 100000 in
theorem own_any (A : Option Addr) (c : Nat) (L : List Rc) (mL : L.length ≤ 4096) (w : World) (hL : Lr w A L) :
    Calls Tryd.prog 7 #[.slice A L.length c] w fun e W' => ∃ B c', e = .returned (.slice B L.length c') ∧ OwnR W' w.heap.size (.slice B L.length c') L ∧ Below w.heap.size w W' := by
  obtain ⟨i0, hi0, hz0, hz1, hz2⟩ := infoR_parts
  cases L with
  | nil =>
    clear hL
    cases A with
    | none =>
      go_enter Tryd.func7, Tryd.ntmps7
      go_wp2_with fail
      go_ret
      exact ⟨_, _, rfl, own0 w, fresh0 _ _⟩
    | some ad =>
      have HO := Lib.hid (own0 w)
      go_enter Tryd.func7, Tryd.ntmps7
      go_wp2_with (at_builtin; refine wpList_append_own _ rfl _ _ 22 rfl w.heap.size 34 i0 (.agg #[.int .i64 0, .int .i64 0]) 2 16 Tryd.underlying22 hi0 hz0 hz1 hz2 rfl (by decide) _ 0 [] rfl HO.out ad 0 _ [] rfl (by simp) (by intro j u hj; simp at hj) (by simp) (by simp [maxLen]) (by omega) (by simp) ?_; intro v' w5 hown' hgrow _; have b5 := Lib.hid (((Below.refl w.heap.size w).alloc (Nat.le_refl _) (.cells #[] 34)).grown hgrow (by simp) (fun j ej => by cases ej; exact Nat.le_refl _)); have HO5 : Hid (OwnR w5 w.heap.size v' []) := Lib.hid (by simpa [OwnR, OwnG] using hown'); obtain ⟨B4, c4, hv5, -, -⟩ := HO5.out.shape; subst hv5; clear hown' hgrow)
      go_ret
      exact ⟨_, _, rfl, HO5.out, b5.out⟩
  | cons x r =>
    obtain ⟨b, off, rfl, hb, -⟩ := at_rc hL (k := 0) (p := x) rfl
    have HC := Lib.hid (lr_flat (hL.below (fresh0 w (.cells #[] 34))))
    have HO := Lib.hid (own0 w)
    generalize x :: r = L at mL HC hL
    clear hL
    go_enter Tryd.func7, Tryd.ntmps7
    go_wp2_with (at_builtin; refine wpList_append_own _ rfl _ _ 22 rfl w.heap.size 34 i0 (.agg #[.int .i64 0, .int .i64 0]) 2 16 Tryd.underlying22 hi0 hz0 hz1 hz2 rfl (by decide) _ 0 [] rfl HO.out ⟨b, off, none⟩ L.length _ (L.flatMap cR) rfl (by rw [flatG_len cellsR]) HC.out (one_flatR _) (by simp [maxLen]; omega) (by omega) (by simp) ?_; intro v' w5 hown' hgrow _; have b5 := Lib.hid (((Below.refl w.heap.size w).alloc (Nat.le_refl _) (.cells #[] 34)).grown hgrow (by simp) (fun j ej => by cases ej; exact Nat.le_refl _)); have HO5 : Hid (OwnR w5 w.heap.size v' L) := Lib.hid (by simpa [OwnR, OwnG] using hown'); obtain ⟨B4, c4, hv5, -, -⟩ := HO5.out.shape; subst hv5; clear hown' hgrow)
    go_ret
    exact ⟨_, _, rfl, HO5.out, b5.out⟩
end Go.Proofs.YtfjfohkdlikpiaaDoor.data
