/-
  The contract of slices.Concat of two slices of times.
-/
import Derived.Test.YtmepiogoofmbbaaApp
namespace Go.Proofs.Ytmepiogoofmbbaa.chain
open Go.ChangeShapes Go.WideShapes Go.ChangeAt Go.RowKit
open Go.Proofs.Ytmepiogoofmbbaa.tm Go.Proofs.Ytmepiogoofmbbaa.opened Go.Proofs.Ytmepiogoofmbbaa.block Go.Proofs.Ytmepiogoofmbbaa.stamp

set_option maxRecDepth 100000 in
set_option maxHeartbeats 1000000 in
theorem concat_any (g : Nat) (A B : Option Addr) (c d : Nat) (L M : List Tm) (mL : L.length ≤ 4096) (mM : M.length ≤ 4096) (w : World) (hL : Lt w A L) (hM : Lt w B M) (O : Whole w g 22 #[.slice A L.length c, .slice B M.length d]) :
    Calls Try.prog 64 #[.slice (some ⟨g, 0, none⟩) 2 2] w fun e W' => ∃ D c', e = .returned (.slice D (L ++ M).length c') ∧ OwnT W' w.heap.size (.slice D (L ++ M).length c') (L ++ M) ∧ Below w.heap.size w W' := by
  have HL := Lib.hid hL
  have HM := Lib.hid hM
  have GR := grow_any (L.length + M.length) (by omega)
  rw [Int.natCast_add] at GR
  have GR := Lib.hid GR
  have hw1 : IntKind.i64.wrap (0 + (L.length : Int)) = L.length := by rw [IntKind.wrap_i64]; omega
  have hw2 : IntKind.i64.wrap ((L.length : Int) + M.length) = (L.length : Int) + M.length := by rw [IntKind.wrap_i64]; omega
  have hn1 : ¬ (L.length : Int) < 0 := by omega
  have hn2 : ¬ (L.length : Int) + M.length < 0 := by omega
  have hg := O.inside
  have OH := Lib.hid O
  obtain ⟨oc, of⟩ := path.all_of O
  clear hL hM O
  go_enter Try.func64, Try.ntmps64
  go_wp2_with fail
  refine wp_loop_rounds 3 ?_
  rw [rounds_succ]
  go_wp2_with fail
  rw [rounds_succ]
  go_wp2_with fail
  rw [rounds_succ]
  go_wp2_with fail
  refine (GR.out _).mono ?_
  rintro e w1 ⟨D, c1, rfl, h1, b1⟩
  have H1 := Lib.hid h1
  have OH1 := Lib.hid (OH.out.below b1 hg)
  have HL1 := Lib.hid (HL.out.below b1)
  have HM1 := Lib.hid (HM.out.below b1)
  have hs1 := b1.size
  have hg1 : g < w1.heap.size := OH1.out.inside
  obtain ⟨oc, of⟩ := path.all_of OH1.out
  clear h1 GR
  go_wp2_with fail
  refine wp_loop_rounds 3 ?_
  rw [rounds_succ]
  go_wp2_with (at_builtin; refine wp_app rfl _ _ rfl w.heap.size _ [] rfl H1.out A _ c L rfl rfl HL1.out (by simp; omega) hs1 ?_; intro B1 c2 w2 h2 b2; have H2 := Lib.hid h2; have B2 := b1.trans b2; clear h2)
  have hg2 := Nat.lt_of_lt_of_le hg B2.size
  have HM2 := Lib.hid (HM.out.below B2)
  obtain ⟨oc, of⟩ := path.all_of (OH.out.below B2 hg)
  clear H1 b1 b2
  rw [rounds_succ]
  go_wp2_with (at_builtin; refine wp_app rfl _ _ rfl w.heap.size _ ([] ++ L) rfl H2.out B _ d M rfl rfl HM2.out (by simp; omega) B2.size ?_; intro D3 c3 w3 h3 b3; have H3 := Lib.hid h3; have B3 := B2.trans b3; clear h3)
  rw [rounds_succ]
  go_wp2_with fail
  go_ret
  exact ⟨D3, c3, by rw [List.length_append]; rfl, H3.out, B3⟩
end Go.Proofs.Ytmepiogoofmbbaa.chain
