/-
  New's other way; At.
-/
import Derived.Test.YtbomlapmoiamgaaWr
set_option linter.unusedSimpArgs false
set_option linter.unusedVariables false
namespace Go.Proofs.Ytbomlapmoiamgaa.wan
open Go.ChangeShapes Go.WideShapes Go.ChangeAt Go.RowKit
open Go.Proofs.Ytbomlapmoiamgaa.opened Go.Proofs.Ytbomlapmoiamgaa.block Go.Proofs.Ytbomlapmoiamgaa.words Go.Proofs.Ytbomlapmoiamgaa.region
section
variable {B g : Nat} {W : Wn} {A : Option Addr} {c : Nat} {w : World}
theorem new_bad (n : Int) (h : ¬ (2 ≤ n ∧ n ≤ 16)) : Calls Try.prog 7 #[.int .i64 n] w fun e w' => e = .returned (.tuple #[.pointer none, .int .i64 1]) ∧ Below w.heap.size w w' := by
  by_cases h0 : n < 2
  · clear h
    go_enter Try.func7, Try.ntmps7
    go_wp2_with fail
    go_ret2
    exact ⟨rfl, Below.refl _ _⟩
  · have h1 : 16 < n := by omega
    clear h
    go_enter Try.func7, Try.ntmps7
    go_wp2_with fail
    go_ret2
    exact ⟨rfl, Below.refl _ _⟩
abbrev zL : Array Value := #[.int .i64 0, .int .i64 0, .string ByteArray.empty]
set_option maxRecDepth 100000 in
theorem at_any (h : WanE 94 34 B w g W A c) (G : GoodW W) (i : Int) : Calls Try.prog 22 #[.pointer (some ⟨g, 0, none⟩), .int .i64 i] w fun e w' => e = .returned (.tuple #[(atV W i).val, .int .i64 (atE W i)]) ∧ Below w.heap.size w w' := by
  have B1 : Hid (Below w.heap.size w (w.alloc (.cells zL 34))) := Lib.hid (fresh1 w _)
  have R1 : Hid (Whole (w.alloc (.cells zL 34)) w.heap.size 34 zL) := Lib.hid (Whole.fresh w 34 zL)
  have hE := h.below (fresh1 w (.cells zL 34))
  have k1 : (w.alloc (.cells zL 34)).cell? ⟨g, 1, none⟩ = some (.slice A W.L.length c) := wan_l hE
  have f1 : (w.alloc (.cells zL 34)).frozen? ⟨g, 1, none⟩ = false := hE.cell.soft 1
  have HR := Lib.hid hE.row
  have HLn := Lib.hid G.l
  have HLE := Lib.hid (show W.L = W.L from rfl)
  clear h G hE
  have HE : Hid (atE W i = if 0 ≤ i ∧ i < W.L.length then 0 else 1) := Lib.hid rfl
  have HV : Hid (atV W i = if 0 ≤ i then (W.L[i.toNat]?).getD ⟨0, 0, []⟩ else ⟨0, 0, []⟩) := Lib.hid rfl
  generalize atE W i = ae at HE ⊢
  generalize atV W i = av at HV ⊢
  go_enter Try.func22, Try.ntmps22
  go_upto_region 1 with fail
  change Code.wp _ _ _ _ (w.alloc (.cells zL 34))
  generalize w.alloc (.cells zL 34) = W1 at B1 R1 k1 f1 HR ⊢
  obtain ⟨g0, hg0⟩ : ∃ g, g = w.heap.size := ⟨_, rfl⟩
  have HG0 := Lib.hid hg0
  rw [← hg0] at R1 ⊢
  clear hg0
  by_cases h0 : i < 0
  · have he := HE.out
    rw [if_neg (by omega)] at he
    have hv := HV.out
    rw [if_neg (by omega)] at hv
    subst he hv
    clear HE HV
    clear HR HLn HLE
    go_wp2_with (refine put rfl 34 (.tmp 4) _ rfl (g := g0) rfl rfl R1.out (by kernel_rfl) rfl (by simp [Value.oneCell']) B1.out (by rw [HG0.out]; exact Nat.le_refl _) ?_; intro w9 hR9 hB9 hs9 ho9)
    exact bodyPost_ret (two_letter Try.results22 rfl rfl (e := ⟨0, 0, []⟩) hR9 Try.underlying34 infoP3) rfl ⟨rfl, hB9⟩
  · obtain ⟨j, rfl⟩ : ∃ j : Nat, i = j := ⟨i.toNat, by omega⟩
    by_cases h2 : W.L.length ≤ j
    · have h3 : (W.L.length : Int) ≤ j := by omega
      have he := HE.out
      rw [if_neg (by omega)] at he
      have hv := HV.out
      rw [if_pos (by omega), Int.toNat_natCast, List.getElem?_eq_none h2] at hv
      subst he hv
      clear HE HV
      have hll := HLn.out
      clear HR HLn HLE h0 h2
      generalize W.L.length = n at k1 h3 hll
      go_wp2_with (refine put rfl 34 (.tmp 4) _ rfl (g := g0) rfl rfl R1.out (by kernel_rfl) rfl (by simp [Value.oneCell']) B1.out (by rw [HG0.out]; exact Nat.le_refl _) ?_; intro w9 hR9 hB9 hs9 ho9)
      exact bodyPost_ret (two_letter Try.results22 rfl rfl (e := ⟨0, 0, []⟩) hR9 Try.underlying34 infoP3) rfl ⟨rfl, hB9⟩
    · have h3 : (j : Int) < W.L.length := by omega
      have h4 : j < W.L.length := by omega
      obtain ⟨l, hl⟩ : ∃ l, l = W.L[j] := ⟨_, rfl⟩
      have hlj : W.L[j]? = some l := by rw [hl]; exact List.getElem?_eq_getElem h4
      have he := HE.out
      rw [if_pos ⟨by omega, h3⟩] at he
      have hv := HV.out
      rw [if_pos (by omega), Int.toNat_natCast, hlj, Option.getD_some] at hv
      subst he
      have hv := hv.symm
      subst hv
      clear HE HV
      obtain ⟨b, rfl, hc⟩ : ∃ b, A = some ⟨b, 0, none⟩ ∧ ∀ q, q < 3 → W1.cell? ⟨b, j * 3 + q, none⟩ = (cL l)[q]? ∧ W1.frozen? ⟨b, j * 3 + q, none⟩ = false := by
        rcases HR.out.2 with ⟨-, hn⟩ | ⟨b, cap, cur, hv, hb, hg, hc, hcm, hs, ht⟩
        · omega
        · injection hv with h1 h2 h3
          refine ⟨b, h1, fun q hq => ?_⟩
          have e := flatG_at cellsL W.L j l q hlj hq
          have hlt : j * 3 + q < W.L.length * 3 := by omega
          rw [← ht, List.getElem?_take, if_pos hlt, Array.getElem?_toList] at e
          rw [← e]
          exact ⟨by simp [World.cell?, hg], by simp [World.frozen?, hg]⟩
      have z0 : W1.cell? ⟨b, j * 3, none⟩ = some (.int .i64 l.f) := (hc 0 (by omega)).1
      have z1 : W1.cell? ⟨b, j * 3 + 1, none⟩ = some (.int .i64 l.t) := (hc 1 (by omega)).1
      have z2 : W1.cell? ⟨b, j * 3 + 2, none⟩ = some (sV l.s) := (hc 2 (by omega)).1
      have y0 : W1.frozen? ⟨b, j * 3, none⟩ = false := (hc 0 (by omega)).2
      have hll := HLn.out
      have h5 : (0 : Int) ≤ j := by omega
      clear hc HR HLn HLE h0 h2 h4 hl hlj
      generalize W.L.length = n at k1 h3 hll
      go_wp2_with (refine put rfl 34 (.tmp 4) _ rfl (g := g0) rfl rfl R1.out (by kernel_rfl) rfl (by simp [Value.oneCell']) B1.out (by rw [HG0.out]; exact Nat.le_refl _) ?_; intro w9 hR9 hB9 hs9 ho9)
      exact bodyPost_ret (two_letter Try.results22 rfl rfl (e := l) hR9 Try.underlying34 infoP3) rfl ⟨rfl, hB9⟩
end
end Go.Proofs.Ytbomlapmoiamgaa.wan
