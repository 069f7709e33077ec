/-
  The contract of watershedlaw06.own.
-/
import Derived.Test.YtmepiogoofmbbaaOw
import Derived.WalkMore
namespace Go.Proofs.Ytmepiogoofmbbaa.chain
open Go.ChangeShapes Go.WideShapes Go.ChangeAt Go.RowKit
open Go.Proofs.Ytmepiogoofmbbaa.tm Go.Proofs.Ytmepiogoofmbbaa.opened Go.Proofs.Ytmepiogoofmbbaa.block Go.Proofs.Ytmepiogoofmbbaa.stamp

theorem lt_flat {w : World} {L : List Tm} {b off : Nat} (h : Lt w (some ⟨b, off, none⟩) L) : ∀ j u, (L.flatMap cT)[j]? = some u → w.cell? ((⟨b, off, none⟩ : Addr).add j) = some u := by
  intro j u hj
  have hlt : j < L.length * 5 := by rw [← flat_len]; exact (List.getElem?_eq_some_iff.1 hj).1
  obtain ⟨y, hy, -⟩ := get_lt (L := L) (k := j / 5) (by omega)
  have e := flat_at L (j / 5) y (j % 5) hy (Nat.mod_lt _ (by omega))
  rw [show j / 5 * 5 + j % 5 = j by omega, hj] at e
  rcases h with h | ⟨b', o', hA, -, hc⟩
  · have : L = [] := by simpa using h
    subst this
    simp at hy
  · injection (Option.some.inj hA) with e1 e2
    subst e1 e2
    have := (hc (j / 5) (cT y) (by rw [List.getElem?_map, hy]; rfl)).2 (j % 5) (Nat.mod_lt _ (by omega))
    rw [show j / 5 * 5 + j % 5 = j by omega, ← e] at this
    rw [show (⟨b, off, none⟩ : Addr).add j = ⟨b, off + j, none⟩ by cases j <;> simp [Addr.add]]
    exact this
theorem own0 (W : World) : OwnT (W.alloc (.cells #[] 26)) W.heap.size (.slice (some ⟨W.heap.size, 0, none⟩) 0 0) [] := ⟨rfl, .inr ⟨W.heap.size, 0, #[], rfl, Nat.le_refl _, heap_new W _, Nat.le_refl _, by simp [maxLen], rfl, rfl⟩⟩
theorem OwnT.same {w : World} {base : Nat} {v : Value} {N M : List Tm} (h : OwnT w base v N) (e : N = M) : OwnT w base v M := e ▸ h
set_option maxRecDepth 100000 in
theorem own_any (A : Option Addr) (c : Nat) (L : List Tm) (mL : L.length ≤ 4096) (hc : L.length ≤ c) (w : World) (hL : Lt w A L) :
    Calls Try.prog 12 #[.slice A L.length c] w fun e W' => ∃ B c', e = .returned (.slice B L.length c') ∧ OwnT W' w.heap.size (.slice B L.length c') L ∧ Below w.heap.size w W' := by
  obtain ⟨i0, hi0, hz0, hz1, hz2⟩ := info_parts infoT
  cases L with
  | nil =>
    clear hL
    cases A with
    | none =>
      go_enter Try.func12, Try.ntmps12
      go_wp2_with fail
      go_ret
      exact ⟨_, _, rfl, own0 w, fresh1 _ _⟩
    | some ad =>
      have HO := Lib.hid (own0 w)
      go_enter Try.func12, Try.ntmps12
      go_wp2_with (at_builtin; refine wpList_append_own _ rfl _ _ 22 rfl w.heap.size 26 i0 (.agg #[.int .u32 T0.e, .int .i64 T0.d, .int .u32 T0.a, .int .u32 T0.b, .int .u32 T0.c]) 5 32 Try.underlying22 hi0 hz0 hz1 hz2 rfl (by decide) _ 0 [] rfl HO.out ad 0 _ [] rfl (by simp) (by intro j u hj; simp at hj) (by simp) (by simp [maxLen]) (by omega) (by simp) ?_; intro v' w5 hown' hgrow _; have b5 := Lib.hid (((Below.refl w.heap.size w).alloc (Nat.le_refl _) (.cells #[] 26)).grown hgrow (by simp) (fun j ej => by cases ej; exact Nat.le_refl _)); have HO5 : Hid (OwnT w5 w.heap.size v' []) := Lib.hid (by unfold OwnT; simpa using hown'); obtain ⟨B4, c4, hv5⟩ := HO5.out.shape; subst hv5; clear hown' hgrow)
      go_ret
      exact ⟨_, _, rfl, HO5.out, b5.out⟩
  | cons x r =>
    obtain ⟨b, off, rfl, hb, -⟩ := hL.at (k := 0) (t := x) rfl
    have HC := Lib.hid (lt_flat (hL.below (fresh1 w (.cells #[] 26))))
    have HO := Lib.hid (own0 w)
    generalize x :: r = L at mL hc HC hL
    clear hL
    go_enter Try.func12, Try.ntmps12
    go_wp2_with (at_builtin; refine wpList_append_own _ rfl _ _ 22 rfl w.heap.size 26 i0 (.agg #[.int .u32 T0.e, .int .i64 T0.d, .int .u32 T0.a, .int .u32 T0.b, .int .u32 T0.c]) 5 32 Try.underlying22 hi0 hz0 hz1 hz2 rfl (by decide) _ 0 [] rfl HO.out ⟨b, off, none⟩ L.length _ (L.flatMap cT) rfl (by rw [flat_len]) HC.out (one_flat _) (by simp [maxLen]; omega) (by omega) (by simp) ?_; intro v' w5 hown' hgrow _; have b5 := Lib.hid (((Below.refl w.heap.size w).alloc (Nat.le_refl _) (.cells #[] 26)).grown hgrow (by simp) (fun j ej => by cases ej; exact Nat.le_refl _)); have HO5 : Hid (OwnT w5 w.heap.size v' L) := Lib.hid (by unfold OwnT; simpa using hown'); obtain ⟨B4, c4, hv5⟩ := HO5.out.shape; subst hv5; clear hown' hgrow)
    go_ret
    exact ⟨_, _, rfl, HO5.out, b5.out⟩
end Go.Proofs.Ytmepiogoofmbbaa.chain
