/-
  slices.Clone of a file's bytes.
-/
import Derived.Test.YtkfjgmfokpgcbaaJKa
import Derived.Lib.SliceRun
namespace Go.Proofs.Ytkfjgmfokpgcbaa.disk
open Go.ChangeShapes Go.WideShapes Go.ChangeAt Go.RowKit Go.Maps Go.WideMaps
open Go.Proofs.Ytkfjgmfokpgcbaa.words Go.Proofs.Ytkfjgmfokpgcbaa.opened Go.Proofs.Ytkfjgmfokpgcbaa.block

theorem own0B (W : World) : (W.alloc (.cells #[] 5)).ownsRow W.heap.size 5 1 (.slice (some ⟨W.heap.size, 0, none⟩) 0 0) 0 [] := ⟨rfl, .inr ⟨W.heap.size, 0, #[], rfl, Nat.le_refl _, heap_new W _, Nat.le_refl _, by simp [maxLen], rfl, rfl⟩⟩
theorem one_bsC (b : Bs) : ∀ u ∈ bsC b, u.oneCell' = true := by
  intro u hu
  obtain ⟨x, -, rfl⟩ := List.mem_map.1 hu
  rfl
set_option maxRecDepth 100000 in
theorem clone_any {e : Fe} (hl : e.f.b.length ≤ 262144) (w : World) (h : RowE w e) :
    Calls Try.prog 38 #[.slice e.A e.f.b.length e.c] w fun v w' => ∃ A' c', v = .returned (.slice A' e.f.b.length c') ∧ RowE w' ⟨e.f, A', c'⟩ ∧ Below w.heap.size w w' ∧ ∀ a, A' = some a → w.heap.size ≤ a.block := by
  rcases h.ok with hA | ⟨g, hA⟩
  · have hb0 : e.f.b = [] := by
      rcases h.1.2 with ⟨-, hn⟩ | ⟨g, cap, cur, hv, -⟩
      · exact List.eq_nil_of_length_eq_zero hn
      · injection hv with h1
        rw [hA] at h1
        cases h1
    have hR : Hid (RowE w ⟨e.f, none, 0⟩) := Lib.hid ⟨by unfold Fe.row; dsimp only; rw [hb0]; exact World.ownsRow_nil _ _ _ _, fun _ => rfl⟩
    have hq := fun W => Lib.run_eql_slice_nil (P := Try.prog) W 57 5 none 0 e.c 0 0 Try.underlying57
    rw [hA, hb0]
    clear h hA
    go_enter Try.func38, Try.ntmps38
    go_wp2_with fail
    go_ret
    exact ⟨none, 0, rfl, hR.out, Below.refl _ _, fun a ha => (nomatch ha)⟩
  · obtain ⟨i0, hi, hz0, hz1, hz2⟩ : ∃ i, Try.prog.info? 5 = some i ∧ i.zero = some (.int .u8 0) ∧ i.size = 1 ∧ i.bytes = 1 := by
      have h := info5
      rw [Option.map_eq_some_iff] at h
      obtain ⟨i, hi, he⟩ := h
      simp only [Prod.mk.injEq] at he
      exact ⟨i, hi, he.1, he.2.1, he.2.2⟩
    have hne : e.f.b ≠ [] := fun e0 => by have := h.2 e0; rw [hA] at this; cases this
    have b1 := fresh1' w (.cells #[] 5)
    have hgl : g < w.heap.size := h.lt hA
    have HC := Lib.hid (fun (j : Nat) (u : Value) (hj : (bsC e.f.b)[j]? = some u) => show (w.alloc (.cells #[] 5)).cell? ((⟨g, 0, none⟩ : Addr).add j) = some u from by
      have := World.ownsRow.cells h.1 (g := g) (by show Value.ownBlock (.slice e.A _ _) = _; rw [hA]; rfl) j u hj
      rw [add_at] at this ⊢
      exact (b1.cell (p := ⟨g, j, none⟩) hgl).trans this)
    have HO := Lib.hid (own0B w)
    have hpos : 0 < e.f.b.length := List.length_pos_iff.2 hne
    have HNE := Lib.hid hne
    have hbl := bsC_len e.f.b
    have hone := Lib.hid (one_bsC e.f.b)
    have HFIN : Hid (∀ A' c' w5, w5.ownsRow w.heap.size 5 1 (.slice A' e.f.b.length c') e.f.b.length (bsC e.f.b) → RowE w5 ⟨e.f, A', c'⟩ ∧ ∀ a, A' = some a → w.heap.size ≤ a.block) := Lib.hid (fun A' c' w5 ho => by
      refine ⟨⟨⟨ho.1, ?_⟩, fun e0 => absurd e0 hne⟩, fun a ha => (World.ownsRow.lt ho a.block (by rw [ha]; rfl)).1⟩
      rcases ho.2 with hn | ⟨g', cap, cur, hv, hg, hh, rest⟩
      · exact .inl hn
      · exact .inr ⟨g', cap, cur, hv, Nat.zero_le _, hh, rest⟩)
    rw [hA]
    have hq := fun W => Lib.run_eql_slice_nil (P := Try.prog) W 57 5 (some ⟨g, 0, none⟩) e.f.b.length e.c 0 0 Try.underlying57
    clear h hA hne b1
    obtain ⟨n, hn⟩ : ∃ n, n = e.f.b.length := ⟨_, rfl⟩
    rw [← hn] at hl hpos hbl hq HFIN ⊢
    generalize bsC e.f.b = xs at HC hbl hone HFIN
    clear hn
    have HBL := Lib.hid hbl
    clear hbl
    go_enter Try.func38, Try.ntmps38
    go_wp2_with (at_builtin; refine wpList_append_own _ rfl _ _ 57 rfl w.heap.size 5 i0 (.int .u8 0) 1 1 Try.underlying57 hi hz0 hz1 hz2 rfl (by decide) _ 0 [] rfl HO.out ⟨g, 0, none⟩ n _ xs rfl (by rw [HBL.out]; omega) HC.out hone.out (by simp [maxLen]; omega) (by omega) (by simp) ?_; intro v' w5 hown' hgrow _; have b5 := Lib.hid (((Below.refl w.heap.size w).alloc (Nat.le_refl _) (.cells #[] 5)).grown hgrow (by simp) (fun j ej => by cases ej; exact Nat.le_refl _)); obtain ⟨A4, c4, hv5⟩ : ∃ A4 c4, v' = .slice A4 n c4 := (by rcases hown'.2 with ⟨rfl, h0⟩ | ⟨g', cap, cur, rfl, -⟩; (· exact ⟨none, 0, by rw [show n = 0 by omega]⟩); (· exact ⟨some ⟨g', 0, none⟩, cap, by rw [Nat.zero_add]⟩)); subst hv5; have HO5 : Hid (w5.ownsRow w.heap.size 5 1 (.slice A4 n c4) n xs) := Lib.hid (by simpa using hown'); clear hown' hgrow)
    go_ret
    obtain ⟨f1, f2⟩ := HFIN.out A4 c4 w5 HO5.out
    exact ⟨A4, c4, rfl, f1, b5.out, f2⟩
end Go.Proofs.Ytkfjgmfokpgcbaa.disk
