/-
  The contract of watershedlaw11.lists: are two lists of lists the same?
-/
import Derived.Test.YtaiaadojnoipfaaDa
import Derived.Test.YtaiaadojnoipfaaDg
import Derived.Test.YtaiaadojnoipfaaDor
namespace Go.Proofs.Ytaiaadojnoipfaa.data
open Go.ChangeShapes Go.WideShapes Go.ChangeAt Go.RowKit
open Go.Proofs.Ytaiaadojnoipfaa.opened Go.Proofs.Ytaiaadojnoipfaa.block Go.Proofs.Ytaiaadojnoipfaa.region

theorem lists_more {N M : List (List Rc)} {k : Nat} {x y : List Rc} (h : N.take k = M.take k) (hx : N[k]? = some x) (hy : M[k]? = some y) (e : x = y) : N.take (k + 1) = M.take (k + 1) := by
  rw [List.take_add_one, List.take_add_one, h, hx, hy, e]
set_option maxRecDepth 100000 in
set_option maxHeartbeats 1000000 in
theorem lists_any (A B : Option Addr) (c d : Nat) (N M : List (List Rc)) (hM : M.length ≤ 1000000) (hM2 : ∀ x ∈ M, x.length ≤ 1000000) (w : World) (h1 : LL 2 cR w A N) (h2 : LL 2 cR w B M) :
    Calls Try.prog 13 #[.slice A N.length c, .slice B M.length d] w fun e w' => e = .returned (.bool (decide (N = M))) ∧ Below w.heap.size w w' := by
  have H1 := Lib.hid h1
  have H2 := Lib.hid h2
  clear h1 h2
  by_cases hl : N.length = M.length
  · have HL := Lib.hid hl
    generalize hn : M.length = n at hl hM
    have HM := Lib.hid hn
    rw [hl]
    clear hn hl
    go_enter Try.func13, Try.ntmps13
    go_wp2_with fail
    go_loopw [5] (fun i wr => ∃ k : Nat, k ≤ n ∧ i = .int .i64 k ∧ Hid (N.take k = M.take k) ∧ Hid (Below w.heap.size w wr)) (fun i _ => n - (intOf i).toNat)
    case atStart => exact ⟨0, Nat.zero_le _, rfl, Lib.hid (by simp), Lib.hid (Below.refl _ _)⟩
    case round =>
      obtain ⟨k, hk, rfl, HT, HB⟩ := hrel
      by_cases hlt : k < n
      · obtain ⟨x, hx⟩ : ∃ x, N[k]? = some x := ⟨_, List.getElem?_eq_getElem (by have := HL.out; have := HM.out; omega)⟩
        obtain ⟨y, hy⟩ : ∃ y, M[k]? = some y := ⟨_, List.getElem?_eq_getElem (by have := HM.out; omega)⟩
        obtain ⟨b1, o1, B1, c1, rfl, hb1, d1, l1⟩ := (H1.out.below HB.out).rows k x hx
        obtain ⟨b2, o2, B2, c2, rfl, hb2, d2, l2⟩ := (H2.out.below HB.out).rows k y hy
        have HX := Lib.hid hx
        have HY := Lib.hid hy
        have AL := Lib.hid (fun q : Since wr => alike_any B1 B2 c1 c2 x y (hM2 y (List.mem_of_getElem? hy)) q.1 (l1.below q.2) (l2.below q.2))
        have s0 : ∀ q : Since wr, q.1.cell? ⟨b1, o1 + k, none⟩ = some (.slice B1 x.length c1) := fun q => (q.2.cell (p := ⟨b1, _, none⟩) hb1).trans d1
        have s1 : ∀ q : Since wr, q.1.cell? ⟨b2, o2 + k, none⟩ = some (.slice B2 y.length c2) := fun q => (q.2.cell (p := ⟨b2, _, none⟩) hb2).trans d2
        obtain ⟨z, hz⟩ : ∃ z, decide (x = y) = z := ⟨_, rfl⟩
        rw [hz] at AL
        have HZ := Lib.hid hz
        clear hx hy d1 d2 l1 l2 hz
        go_upto_region 6 with fail
        refine region_since wr (by kernel_rfl) (by kernel_rfl) (Below.refl _ _) ?_
        repeat (go_big_quiet_step ((go_at_call 8; with_reducible exact since_callS AL.out _)))
        refine wpQuiet_nil ?_
        rintro w3 ⟨xx, hw⟩
        have b3 : Below wr.heap.size wr w3 := hw ▸ xx.2
        have HB3 := Lib.hid (HB.out.trans (b3.mono HB.out.size))
        clear hw xx b3 s0 s1 AL
        cases z with
        | true =>
          have HR := Lib.hid (lists_more HT.out HX.out HY.out (of_decide_eq_true HZ.out))
          go_wp2_with fail
          go_roundw
          case rel => exact ⟨k + 1, by omega, by go_num, HR, HB3⟩
          case measure => simp [intOf]; omega
        | false =>
          have HR : Hid (N ≠ M) := Lib.hid (fun e => by
            have h1 := HX.out
            rw [e, HY.out] at h1
            exact of_decide_eq_false HZ.out (Option.some.inj h1).symm)
          go_wp2_with fail
          go_ret
          rw [decide_eq_false HR.out]
          exact ⟨rfl, HB3.out⟩
      · have HR : Hid (N = M) := Lib.hid (by
          have e := HT.out
          have := HL.out
          have := HM.out
          rwa [List.take_of_length_le (by omega), List.take_of_length_le (by omega)] at e)
        go_wp2_with fail
        go_ret
        rw [decide_eq_true HR.out]
        exact ⟨rfl, HB.out⟩
  · have HR : Hid (N ≠ M) := Lib.hid (fun e => hl (congrArg List.length e))
    generalize N.length = n at hl
    generalize M.length = m at hl hM
    have hne : ((n : Int) == (m : Int)) = false := by rw [beq_eq_false_iff_ne]; omega
    go_enter Try.func13, Try.ntmps13
    go_wp2_with fail
    go_ret
    rw [decide_eq_false HR.out]
    exact ⟨rfl, Below.refl _ _⟩
end Go.Proofs.Ytaiaadojnoipfaa.data
