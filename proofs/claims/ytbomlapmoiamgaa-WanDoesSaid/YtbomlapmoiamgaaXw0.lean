/-
  The document's New, link, Out, At (by gen_xw.py).
-/
import Derived.Test.YtbomlapmoiamgaaWd2
set_option linter.unusedSimpArgs false
set_option linter.unusedVariables false
namespace Go.Proofs.Ytbomlapmoiamgaa.wan
open Go.ChangeShapes Go.WideShapes Go.ChangeAt Go.RowKit
open Go.Proofs.Ytbomlapmoiamgaa.opened Go.Proofs.Ytbomlapmoiamgaa.block Go.Proofs.Ytbomlapmoiamgaa.words Go.Proofs.Ytbomlapmoiamgaa.region
section
variable {B g : Nat} {W : Wn} {A : Option Addr} {c : Nat} {w : World}
set_option maxRecDepth 100000 in
set_option maxHeartbeats 1000000 in
theorem newR_any (n : Int) (h0 : 2 ≤ n) (h1 : n ≤ 16) : Calls Try.prog 8 #[.int .i64 n] w fun e w' => e = .returned (.tuple #[.pointer (some ⟨w.heap.size, 0, none⟩), .int .i64 0]) ∧ w' = w.alloc (.cells (wanC n (.slice none 0 0) O0 0) 49) := by
  go_enter Try.func8, Try.ntmps8
  go_upto_region 3 with fail
  have hsz : Hid ((wanC n (.slice none 0 0) O0 0).size = 259) := Lib.hid (by simp [wanC, O0])
  obtain ⟨cs, hcs⟩ : ∃ cs, cs = wanC n (.slice none 0 0) O0 0 := ⟨_, rfl⟩
  have HC := Lib.hid hcs
  have HB : Hid (∀ x, Try.prog.built 49 [(0, .int .i64 n)] = some x ↔ x = cs) := Lib.hid fun x => by
    have : Try.prog.built 49 [(0, .int .i64 n)] = some (wanC n (.slice none 0 0) O0 0) := by kernel_rfl
    rw [this, hcs]
    constructor
    · intro h; exact (Option.some.inj h).symm
    · intro h; rw [h]
  clear hcs
  go_wp2_with (refine wpBuilt rfl 49 #[(0, .tmp 10)] rfl cs (by simpa [Act.eval] using (HB.out cs).2 rfl) ?_)
  go_ret2
  exact ⟨rfl, by rw [HC.out]⟩
theorem newR_bad (n : Int) (h : ¬ (2 ≤ n ∧ n ≤ 16)) : Calls Try.prog 8 #[.int .i64 n] w fun e w' => e = .returned (.tuple #[.pointer none, .int .i64 1]) ∧ Below w.heap.size w w' := by
  by_cases h0 : n < 2
  · clear h
    go_enter Try.func8, Try.ntmps8
    go_wp2_with fail
    go_ret2
    exact ⟨rfl, Below.refl _ _⟩
  · have h1 : 16 < n := by omega
    clear h
    go_enter Try.func8, Try.ntmps8
    go_wp2_with fail
    go_ret2
    exact ⟨rfl, Below.refl _ _⟩
set_option maxRecDepth 100000 in
set_option maxHeartbeats 2000000 in
theorem linkR_any (h : WanE 49 36 B w g W A c) (a b : Int) : Calls Try.prog 45 #[.pointer (some ⟨g, 0, none⟩), .int .i64 a, .int .i64 b] w fun e w' => e = .returned (.bool (linkB W a b)) ∧ Below w.heap.size w w' := by
  have c0 := wan_n h
  have f0 : w.frozen? ⟨g, 0, none⟩ = false := h.cell.soft 0
  clear h
  unfold linkB endB
  generalize W.n = n at c0 ⊢
  by_cases h1 : 0 ≤ a
  · by_cases h2 : a < n
    · by_cases h3 : 0 ≤ b
      · by_cases h4 : b < n
        · by_cases h5 : a = b
          · subst h5
            rw [decide_eq_true h1, decide_eq_true h2, show (a != a) = false by simp]
            go_enter Try.func45, Try.ntmps45
            go_wp2_with fail
            go_ret
            exact ⟨rfl, Below.refl _ _⟩
          · have h6 : (a != b) = true := by simpa using h5
            rw [decide_eq_true h1, decide_eq_true h2, decide_eq_true h3, decide_eq_true h4, h6]
            go_enter Try.func45, Try.ntmps45
            go_wp2_with fail
            go_ret
            exact ⟨rfl, Below.refl _ _⟩
        · rw [decide_eq_true h1, decide_eq_true h2, decide_eq_true h3, decide_eq_false h4]
          go_enter Try.func45, Try.ntmps45
          go_wp2_with fail
          go_ret
          exact ⟨rfl, Below.refl _ _⟩
      · rw [decide_eq_true h1, decide_eq_true h2, decide_eq_false h3]
        go_enter Try.func45, Try.ntmps45
        go_wp2_with fail
        go_ret
        exact ⟨rfl, Below.refl _ _⟩
    · rw [decide_eq_true h1, decide_eq_false h2]
      go_enter Try.func45, Try.ntmps45
      go_wp2_with fail
      go_ret
      exact ⟨rfl, Below.refl _ _⟩
  · rw [decide_eq_false h1]
    go_enter Try.func45, Try.ntmps45
    go_wp2_with fail
    go_ret
    exact ⟨rfl, Below.refl _ _⟩
theorem outR_any (h : WanE 49 36 B w g W A c) (G : GoodW W) (a b : Int) : Calls Try.prog 21 #[.pointer (some ⟨g, 0, none⟩), .int .i64 a, .int .i64 b] w fun e w' => e = .returned (.bool (outB W a b)) ∧ Below w.heap.size w w' := by
  have HL := Lib.hid (linkR_any h a b)
  unfold outB
  cases hl : linkB W a b with
  | false =>
    rw [hl] at HL
    rw [Bool.false_and]
    go_enter Try.func21, Try.ntmps21
    go_wp2_with (go_at_call 45; (with_reducible refine HL.out.mono ?_); rintro e w1 ⟨rfl, b1⟩; have B1 := Lib.hid b1; clear b1)
    go_ret
    exact ⟨rfl, B1.out⟩
  | true =>
    rw [hl] at HL
    rw [Bool.true_and]
    obtain ⟨a0, a1, b0, b1, hne⟩ := link_of hl
    have hn := G.n1
    obtain ⟨i, rfl⟩ : ∃ i : Nat, a = i := ⟨a.toNat, by omega⟩
    obtain ⟨j, rfl⟩ : ∃ j : Nat, b = j := ⟨b.toNat, by omega⟩
    have hi : i < 16 := by omega
    have hj : j < 16 := by omega
    have HC : Hid (∀ w1, Below w.heap.size w w1 → w1.cell? ⟨g, 2 + i * 16 + j, none⟩ = some (.bool ((W.O[i * 16 + j]?).getD false)) ∧ w1.frozen? ⟨g, 2 + i * 16 + j, none⟩ = false) := Lib.hid fun w1 hb => by
      have := wan_o (h.below hb) G (k := i * 16 + j) (by omega)
      rw [← Nat.add_assoc] at this
      exact ⟨this, (h.below hb).cell.soft _⟩
    simp only [Int.toNat_natCast]
    clear hl a0 a1 b0 b1 hne hn h G
    generalize (W.O[i * 16 + j]?).getD false = x at HC ⊢
    have hi2 : (i : Int) < 16 := by omega
    have hj2 : (j : Int) < 16 := by omega
    go_enter Try.func21, Try.ntmps21
    go_wp2_with (go_at_call 45; (with_reducible refine HL.out.mono ?_); rintro e w1 ⟨rfl, b1⟩; have B1 := Lib.hid b1; obtain ⟨z, y⟩ := HC.out w1 b1; clear b1)
    go_ret
    exact ⟨rfl, B1.out⟩
set_option maxRecDepth 100000 in
theorem atR_any (h : WanE 49 36 B w g W A c) (G : GoodW W) (i : Int) : Calls Try.prog 23 #[.pointer (some ⟨g, 0, none⟩), .int .i64 i] w fun e w' => e = .returned (.tuple #[(atV W i).val, .int .i64 (atE W i)]) ∧ Below w.heap.size w w' := by
  have B1 : Hid (Below w.heap.size w (w.alloc (.cells zL 36))) := Lib.hid (fresh1 w _)
  have R1 : Hid (Whole (w.alloc (.cells zL 36)) w.heap.size 36 zL) := Lib.hid (Whole.fresh w 36 zL)
  have hE := h.below (fresh1 w (.cells zL 36))
  have k1 : (w.alloc (.cells zL 36)).cell? ⟨g, 1, none⟩ = some (.slice A W.L.length c) := wan_l hE
  have f1 : (w.alloc (.cells zL 36)).frozen? ⟨g, 1, none⟩ = false := hE.cell.soft 1
  have HR := Lib.hid hE.row
  have HLn := Lib.hid G.l
  have HLE := Lib.hid (show W.L = W.L from rfl)
  clear h G hE
  have HE : Hid (atE W i = if 0 ≤ i ∧ i < W.L.length then 0 else 1) := Lib.hid rfl
  have HV : Hid (atV W i = if 0 ≤ i then (W.L[i.toNat]?).getD ⟨0, 0, []⟩ else ⟨0, 0, []⟩) := Lib.hid rfl
  generalize atE W i = ae at HE ⊢
  generalize atV W i = av at HV ⊢
  go_enter Try.func23, Try.ntmps23
  go_upto_region 1 with fail
  change Code.wp _ _ _ _ (w.alloc (.cells zL 36))
  generalize w.alloc (.cells zL 36) = W1 at B1 R1 k1 f1 HR ⊢
  obtain ⟨g0, hg0⟩ : ∃ g, g = w.heap.size := ⟨_, rfl⟩
  have HG0 := Lib.hid hg0
  rw [← hg0] at R1 ⊢
  clear hg0
  by_cases h0 : i < 0
  · have he := HE.out
    rw [if_neg (by omega)] at he
    have hv := HV.out
    rw [if_neg (by omega)] at hv
    subst he hv
    clear HE HV
    clear HR HLn HLE
    go_wp2_with (refine put rfl 36 (.tmp 4) _ rfl (g := g0) rfl rfl R1.out (by kernel_rfl) rfl (by simp [Value.oneCell']) B1.out (by rw [HG0.out]; exact Nat.le_refl _) ?_; intro w9 hR9 hB9 hs9 ho9)
    exact bodyPost_ret (two_letter Try.results23 rfl rfl (e := ⟨0, 0, []⟩) hR9 Try.underlying36 infoR3) rfl ⟨rfl, hB9⟩
  · obtain ⟨j, rfl⟩ : ∃ j : Nat, i = j := ⟨i.toNat, by omega⟩
    by_cases h2 : W.L.length ≤ j
    · have h3 : (W.L.length : Int) ≤ j := by omega
      have he := HE.out
      rw [if_neg (by omega)] at he
      have hv := HV.out
      rw [if_pos (by omega), Int.toNat_natCast, List.getElem?_eq_none h2] at hv
      subst he hv
      clear HE HV
      have hll := HLn.out
      clear HR HLn HLE h0 h2
      generalize W.L.length = n at k1 h3 hll
      go_wp2_with (refine put rfl 36 (.tmp 4) _ rfl (g := g0) rfl rfl R1.out (by kernel_rfl) rfl (by simp [Value.oneCell']) B1.out (by rw [HG0.out]; exact Nat.le_refl _) ?_; intro w9 hR9 hB9 hs9 ho9)
      exact bodyPost_ret (two_letter Try.results23 rfl rfl (e := ⟨0, 0, []⟩) hR9 Try.underlying36 infoR3) rfl ⟨rfl, hB9⟩
    · have h3 : (j : Int) < W.L.length := by omega
      have h4 : j < W.L.length := by omega
      obtain ⟨l, hl⟩ : ∃ l, l = W.L[j] := ⟨_, rfl⟩
      have hlj : W.L[j]? = some l := by rw [hl]; exact List.getElem?_eq_getElem h4
      have he := HE.out
      rw [if_pos ⟨by omega, h3⟩] at he
      have hv := HV.out
      rw [if_pos (by omega), Int.toNat_natCast, hlj, Option.getD_some] at hv
      subst he
      have hv := hv.symm
      subst hv
      clear HE HV
      obtain ⟨b, rfl, hc⟩ : ∃ b, A = some ⟨b, 0, none⟩ ∧ ∀ q, q < 3 → W1.cell? ⟨b, j * 3 + q, none⟩ = (cL l)[q]? ∧ W1.frozen? ⟨b, j * 3 + q, none⟩ = false := by
        rcases HR.out.2 with ⟨-, hn⟩ | ⟨b, cap, cur, hv, hb, hg, hc, hcm, hs, ht⟩
        · omega
        · injection hv with h1 h2 h3
          refine ⟨b, h1, fun q hq => ?_⟩
          have e := flatG_at cellsL W.L j l q hlj hq
          have hlt : j * 3 + q < W.L.length * 3 := by omega
          rw [← ht, List.getElem?_take, if_pos hlt, Array.getElem?_toList] at e
          rw [← e]
          exact ⟨by simp [World.cell?, hg], by simp [World.frozen?, hg]⟩
      have z0 : W1.cell? ⟨b, j * 3, none⟩ = some (.int .i64 l.f) := (hc 0 (by omega)).1
      have z1 : W1.cell? ⟨b, j * 3 + 1, none⟩ = some (.int .i64 l.t) := (hc 1 (by omega)).1
      have z2 : W1.cell? ⟨b, j * 3 + 2, none⟩ = some (sV l.s) := (hc 2 (by omega)).1
      have y0 : W1.frozen? ⟨b, j * 3, none⟩ = false := (hc 0 (by omega)).2
      have hll := HLn.out
      have h5 : (0 : Int) ≤ j := by omega
      clear hc HR HLn HLE h0 h2 h4 hl hlj
      generalize W.L.length = n at k1 h3 hll
      go_wp2_with (refine put rfl 36 (.tmp 4) _ rfl (g := g0) rfl rfl R1.out (by kernel_rfl) rfl (by simp [Value.oneCell']) B1.out (by rw [HG0.out]; exact Nat.le_refl _) ?_; intro w9 hR9 hB9 hs9 ho9)
      exact bodyPost_ret (two_letter Try.results23 rfl rfl (e := l) hR9 Try.underlying36 infoR3) rfl ⟨rfl, hB9⟩
end
end Go.Proofs.Ytbomlapmoiamgaa.wan
