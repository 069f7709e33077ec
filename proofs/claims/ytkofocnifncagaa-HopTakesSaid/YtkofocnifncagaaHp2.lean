/-
  The document's receiver; the walk of HopTakes (by gen_hp2.py).
-/
import Derived.Test.YtkofocnifncagaaHp1
import Derived.Test.YtkofocnifncagaaHix
import Derived.Deep.CutRange
import Derived.Deep.CutBlock
import Derived.LoopTactic
set_option linter.unusedSimpArgs false
set_option linter.unusedVariables false
namespace Go.Proofs.Ytkofocnifncagaa.hop
open Go.ChangeShapes Go.WideShapes Go.ChangeAt Go.RowKit
open Go.Proofs.Ytkofocnifncagaa.opened Go.Proofs.Ytkofocnifncagaa.block Go.Proofs.Ytkofocnifncagaa.words Go.Proofs.Ytkofocnifncagaa.region
section
variable {w : World} {g : Nat} {R : Rv}
theorem newRR_good (l : Int) (h : 0 ≤ l ∧ l ≤ 1099511627776) : Calls Try.prog 48 #[.int .i64 l] w fun e w' => ∃ g, e = .returned (.tuple #[.pointer (some ⟨g, 0, none⟩), .int .i64 0]) ∧ Below w.heap.size w w' ∧ w.heap.size ≤ g ∧ Whole w' g 99 (rvC ⟨0, l⟩) := by
  obtain ⟨h0, h1⟩ := h
  go_enter Try.func48, Try.ntmps48
  go_wp2_with fail
  go_ret2
  exact ⟨_, rfl, fresh1 w _, Nat.le_refl _, Whole.fresh w 99 (rvC ⟨0, l⟩)⟩
theorem newRR_bad (l : Int) (h : ¬ (0 ≤ l ∧ l ≤ 1099511627776)) : Calls Try.prog 48 #[.int .i64 l] w fun e w' => e = .returned (.tuple #[.pointer none, .int .i64 1]) ∧ Below w.heap.size w w' := by
  by_cases h0 : l < 0
  · clear h
    go_enter Try.func48, Try.ntmps48
    go_wp2_with fail
    go_ret2
    exact ⟨rfl, Below.refl _ _⟩
  · have h1 : 1099511627776 < l := by omega
    clear h
    go_enter Try.func48, Try.ntmps48
    go_wp2_with fail
    go_ret2
    exact ⟨rfl, Below.refl _ _⟩
theorem takeR_any (h : Whole w g 99 (rvC R)) (hl0 : 0 ≤ R.l) (hl1 : R.l < 4611686018427387904) (e n : Int) (hn : IntIn n) : Calls Try.prog 50 #[.pointer (some ⟨g, 0, none⟩), .int .i64 e, .int .i64 n] w fun x w' => x = .returned (.bool (takeB R e n)) ∧ Whole w' g 99 (rvC (takeV R e n)) ∧ TurnS w w' (· = g) := by
  have c0 : w.cell? ⟨g, 0, none⟩ = some (.int .i64 R.e) := h.read 0
  have f0 : w.frozen? ⟨g, 0, none⟩ = false := h.soft 0
  have H := Lib.hid h
  unfold takeB takeV
  obtain ⟨hn0, hn1⟩ := hn
  by_cases h1 : e < R.e
  · rw [if_pos h1, decide_eq_false (by omega)]
    clear h hn0 hn1
    go_enter Try.func50, Try.ntmps50
    go_wp2_with fail
    go_ret
    exact ⟨rfl, H.out, TurnS.refl _ _⟩
  · rw [if_neg h1]
    have s1 : Whole (w.setCell ⟨g, 0, none⟩ (.int .i64 e)) g 99 #[.int .i64 e, .int .i64 R.l] := h.store 0 (.int .i64 e)
    have S1 := Lib.hid s1
    have G1 : Hid (TurnS w (w.setCell ⟨g, 0, none⟩ (.int .i64 e)) (· = g)) := Lib.hid (turnS_grown (only_store (only_of_below (Below.refl _ w) (some g)) _) (fun k hk => (Option.some.inj hk).symm))
    have d1 : (w.setCell ⟨g, 0, none⟩ (.int .i64 e)).cell? ⟨g, 1, none⟩ = some (.int .i64 R.l) := s1.read 1
    have f1 : (w.setCell ⟨g, 0, none⟩ (.int .i64 e)).frozen? ⟨g, 1, none⟩ = false := s1.soft 1
    clear h s1
    by_cases h2 : n = R.l + 1
    · subst h2
      rw [if_pos rfl, decide_eq_true ⟨by omega, rfl⟩]
      have hp : ¬ R.l + 1 < 1 := by omega
      go_enter Try.func50, Try.ntmps50
      go_upto_region 4 with fail
      clear c0 f0 h1
      generalize w.setCell ⟨g, 0, none⟩ (.int .i64 e) = w1 at S1 G1 d1 f1 ⊢
      go_wp2_with fail
      go_ret
      exact ⟨rfl, S1.out.store 1 (.int .i64 (R.l + 1)), G1.out.grown (only_store (only_of_below (Below.refl _ w1) (some g)) _) (fun j hj => .inl (Option.some.inj hj).symm)⟩
    · rw [if_neg h2, decide_eq_false (fun h => h2 h.2)]
      by_cases h3 : n < 1
      · clear hn0 hn1
        go_enter Try.func50, Try.ntmps50
        go_upto_region 4 with fail
        clear c0 f0 h1
        generalize w.setCell ⟨g, 0, none⟩ (.int .i64 e) = w1 at S1 G1 d1 f1 ⊢
        go_wp2_with fail
        go_ret
        exact ⟨rfl, S1.out, G1.out⟩
      · have h4 : 1 ≤ n := by omega
        have hne : ((n - 1) != R.l) = true := by simp; omega
        clear h2 h3
        go_enter Try.func50, Try.ntmps50
        go_upto_region 4 with fail
        clear c0 f0 h1
        generalize w.setCell ⟨g, 0, none⟩ (.int .i64 e) = w1 at S1 G1 d1 f1 ⊢
        go_wp2_with fail
        go_ret
        exact ⟨rfl, S1.out, G1.out⟩
def TkP (t : TypeId) (g : Nat) (b : Bool) (R : Rv) (u : Value) (w : World) : Prop := u = .bool b ∧ Whole w g t (rvC R)
theorem TkP.turn {t : TypeId} {g : Nat} {b : Bool} {R : Rv} {u : Value} {w w' : World} {S : Nat → Prop} (h : TkP t g b R u w) (k : TurnS w w' S) (hn : ¬ S g) : TkP t g b R u w' := ⟨h.1, whole_turn h.2 k hn⟩
theorem keeps_tk (t : TypeId) (g : Nat) (b : Bool) (R : Rv) : Keeps (TkP t g b R) := fun _ _ _ hb h => ⟨h.1, h.2.below hb h.2.inside⟩
set_option maxRecDepth 100000 in
set_option maxHeartbeats 4000000 in
theorem walkTakes (last : Int) (A1 : Option Addr) (c1 : Nat) (L1 : List Int) (i1 : ∀ x ∈ L1, IntIn x) (m1 : L1.length ≤ 140737488351232) (A2 : Option Addr) (c2 : Nat) (L2 : List Int) (i2 : ∀ x ∈ L2, IntIn x) (m2 : L2.length ≤ 140737488351232) (H1 : Lies w A1 (L1.map (Value.int .i64))) (H2 : Lies w A2 (L2.map (Value.int .i64))) :
    Calls Try.prog 7 #[.int .i64 last, .slice A1 L1.length c1, .slice A2 L2.length c2] w fun e w' => e = .returned (.bool true) ∧ Below w.heap.size w w' := by
  by_cases hg : 0 ≤ last ∧ last ≤ 1099511627776
  · have HA := Lib.hid (newR_good (w := w) last hg)
    have HL1 := Lib.hid H1
    have HL2 := Lib.hid H2
    have HI2 := Lib.hid i2
    have hl0 : 0 ≤ last := hg.1
    have hl1 : last ≤ 1099511627776 + (0 : Nat) := by omega
    have HB := Lib.hid (fun w1 => newRR_good (w := w1) last hg)
    clear hg H1 H2 i1 i2
    go_enter Try.func7, Try.ntmps7
    go_upto_block 0 with (first
      | (go_at_call 48; (with_reducible refine (HB.out w1).mono ?_); rintro e w2 ⟨gb, rfl, b2, h2, W2⟩; have B2 := Lib.hid (then_below B1.out b2); have hgb : w.heap.size ≤ gb := Nat.le_trans B1.out.size h2; have WB0 := Lib.hid W2; have WA0 := Lib.hid (WA1.out.below b2 WA1.out.inside); have hgn : ga ≠ gb := (by have := WA1.out.inside; omega); clear b2 W2 h2)
      | (go_at_call 47; (with_reducible refine HA.out.mono ?_); rintro e w1 ⟨ga, rfl, b1, hga, W1⟩; have B1 := Lib.hid b1; have WA1 := Lib.hid W1; clear b1 W1))
    clear HA HB
    have HR0 : Hid (0 ≤ (⟨0, last⟩ : Rv).l ∧ (⟨0, last⟩ : Rv).l ≤ 1099511627776 + (0 : Nat)) := Lib.hid ⟨hl0, hl1⟩
    generalize (⟨0, last⟩ : Rv) = R0 at WA0 WB0 HR0
    clear hl0 hl1
    go_wp2_with fail
    go_loopw [11, 12, 13] (fun i _ _ wr => ∃ (j : Nat) (R : Rv), j ≤ L1.length ∧ j ≤ L2.length ∧ j ≤ 100 ∧ i = .int .i64 (j : Int) ∧ Hid (Whole wr ga 135 (rvC R)) ∧ Hid (Whole wr gb 99 (rvC R)) ∧ 0 ≤ R.l ∧ R.l ≤ 1099511627776 + j ∧ Hid (Below w.heap.size w wr)) (fun i _ _ _ => 100 - (intOf i).toNat)
    case atStart => exact ⟨0, R0, Nat.zero_le _, Nat.zero_le _, Nat.zero_le _, rfl, WA0, WB0, HR0.out.1, HR0.out.2, B2⟩
    case round =>
      obtain ⟨j, R, hj1, hj2, hj3, rfl, WA, WB, hR0, hR1, B3⟩ := hrel
      clear WA0 WB0 B2 HR0
      by_cases h1 : j < L1.length
      · have hj1L := h1
        have h1i : (j : Int) < (L1.length : Int) := by omega
        by_cases h2 : j < L2.length
        · have hj2L := h2
          have h2i : (j : Int) < (L2.length : Int) := by omega
          by_cases h3 : j < 100
          · have h3i : (j : Int) < 100 := by omega
            obtain ⟨e, he⟩ : ∃ e, e = L1[j] := ⟨_, rfl⟩
            obtain ⟨n, hn⟩ : ∃ n, n = L2[j] := ⟨_, rfl⟩
            have hni : IntIn n := by rw [hn]; exact HI2.out _ (List.getElem_mem h2)
            obtain ⟨b1, o1, rfl, hc1⟩ : ∃ b1 o1, A1 = some ⟨b1, o1, none⟩ ∧ Hid (∀ w2, Below w.heap.size w w2 → w2.cell? ⟨b1, o1 + j, none⟩ = some (.int .i64 e)) := by
              rcases HL1.out with h0 | ⟨b, off, ha, hb, hc⟩
              · have := congrArg List.length h0
                simp at this
                subst this
                simp at h1
              · refine ⟨b, off, ha, Lib.hid fun w2 hw => ?_⟩
                refine (hw.cell (p := ⟨b, off + j, none⟩) hb).trans (hc j _ ?_)
                rw [List.getElem?_map, List.getElem?_eq_getElem h1, he]
                rfl
            obtain ⟨b2, o2, rfl, hc2⟩ : ∃ b1 o1, A2 = some ⟨b1, o1, none⟩ ∧ Hid (∀ w2, Below w.heap.size w w2 → w2.cell? ⟨b1, o1 + j, none⟩ = some (.int .i64 n)) := by
              rcases HL2.out with h0 | ⟨b, off, ha, hb, hc⟩
              · have := congrArg List.length h0
                simp at this
                subst this
                simp at h2
              · refine ⟨b, off, ha, Lib.hid fun w2 hw => ?_⟩
                refine (hw.cell (p := ⟨b, off + j, none⟩) hb).trans (hc j _ ?_)
                rw [List.getElem?_map, List.getElem?_eq_getElem h2, hn]
                rfl
            have HC1 := hc1
            have HC2 := hc2
            have HTa := Lib.hid (fun (w2 : World) (h : Whole w2 ga 135 (rvC R)) => take_any h (by omega) hR0 e n)
            have HTb := Lib.hid (fun (w2 : World) (h : Whole w2 gb 99 (rvC R)) => takeR_any h hR0 (by omega) e n hni)
            clear hc1 hc2 he hn hni HL1 HL2 HI2
            go_upto_region 8 with fail
            refine region_many 102 (fun k => k == 9 || k == 19) (fun w2 => Below w.heap.size w w2) ?hR ?r0 [Is (.pointer (some ⟨ga, 0, none⟩)), Is (.slice (some ⟨b1, o1, none⟩) L1.length c1), Is (.int .i64 j), Is (.pointer (some ⟨b1, o1 + j * 1, none⟩)), Is (.int .i64 e), Is (.slice (some ⟨b2, o2, none⟩) L2.length c2), Is (.int .i64 j), Is (.pointer (some ⟨b2, o2 + j * 1, none⟩)), Is (.int .i64 n), (TkP 135 ga (takeB R e n) (takeV R e n)), Is (.pointer (some ⟨gb, 0, none⟩)), Is (.slice (some ⟨b1, o1, none⟩) L1.length c1), Is (.int .i64 j), Is (.pointer (some ⟨b1, o1 + j * 1, none⟩)), Is (.int .i64 e), Is (.slice (some ⟨b2, o2, none⟩) L2.length c2), Is (.int .i64 j), Is (.pointer (some ⟨b2, o2 + j * 1, none⟩)), Is (.int .i64 n), (TkP 99 gb (takeB R e n) (takeV R e n)), Is (.bool false)] (fun k w2 => (k = 9 → Whole w2 ga 135 (rvC R)) ∧ (k = 19 → Whole w2 gb 99 (rvC R))) (by kernel_rfl) rfl (by kernel_rfl) ?keep ?hO ?h0 ?tell
            case hR => exact fun w2 w4 hb h => then_below h hb
            case r0 => exact B3.out
            case keep => exact ⟨keeps_is _, keeps_is _, keeps_is _, keeps_is _, keeps_is _, keeps_is _, keeps_is _, keeps_is _, keeps_is _, keeps_tk _ _ _ _, keeps_is _, keeps_is _, keeps_is _, keeps_is _, keeps_is _, keeps_is _, keeps_is _, keeps_is _, keeps_is _, keeps_tk _ _ _ _, keeps_is _, trivial⟩
            case hO => exact fun k w2 w4 hb h => ⟨fun e => (h.1 e).below hb (h.1 e).inside, fun e => (h.2 e).below hb (h.2 e).inside⟩
            case h0 => exact fun k _ => ⟨fun _ => WA.out, fun _ => WB.out⟩
            case tell =>
              intro fin hfin
              simp [lexPut, Act.put] at hfin
              simp only [TellMany]
              refine ⟨⟨?_, ?_, ?_, ?_, ?_, ?_, ?_, ?_, ?_, ?_, ?_, ?_, ?_, ?_, ?_, ?_, ?_, ?_, ?_, ?_, ?_, trivial⟩, ?_⟩
              · intro v w2 hr hd
                exact yields_move rfl (by rfl)
              · intro v w2 hr hd
                exact yields_move rfl (by rfl)
              · intro v w2 hr hd
                exact yields_move rfl (by rfl)
              · intro v w2 hr hd
                have h1 : v 1 = _ := hd 1 (by kernel_rfl)
                have h2 : v 2 = _ := hd 2 (by kernel_rfl)
                exact yields_index (b := b1) (off := o1) (n := L1.length) (c := c1) (i := j) (m := 1) rfl (by simp [Act.eval, Act.put, h1, h2]) (by simp [Act.eval, Act.put, h1, h2]) hj1L Try.underlying89 (by intro w; simp [Try.sizeOf3])
              · intro v w2 hr hd
                have h3 : v 3 = _ := hd 3 (by kernel_rfl)
                have a6 : w2.cell? ⟨b1, o1 + j, none⟩ = some (.int .i64 e) := (HC1.out w2 hr)
                refine yields_run (u := .int .i64 e) (w' := w2) ?_ (Below.refl _ _) rfl
                unfold execOp
                simp [go_sem, Act.eval, Act.put, h3, a6]
              · intro v w2 hr hd
                refine yields_run (u := .slice (some ⟨b2, o2, none⟩) L2.length c2) (w' := w2) ?_ (Below.refl _ _) rfl
                unfold execOp
                simp [go_sem, Act.eval, Act.put]
              · intro v w2 hr hd
                refine yields_run (u := .int .i64 j) (w' := w2) ?_ (Below.refl _ _) rfl
                unfold execOp
                simp [go_sem, Act.eval, Act.put]
              · intro v w2 hr hd
                have h5 : v 5 = _ := hd 5 (by kernel_rfl)
                have h6 : v 6 = _ := hd 6 (by kernel_rfl)
                exact yields_index (b := b2) (off := o2) (n := L2.length) (c := c2) (i := j) (m := 1) rfl (by simp [Act.eval, Act.put, h5, h6]) (by simp [Act.eval, Act.put, h5, h6]) hj2L Try.underlying89 (by intro w; simp [Try.sizeOf3])
              · intro v w2 hr hd
                have h7 : v 7 = _ := hd 7 (by kernel_rfl)
                have a6 : w2.cell? ⟨b2, o2 + j, none⟩ = some (.int .i64 n) := (HC2.out w2 hr)
                refine yields_run (u := .int .i64 n) (w' := w2) ?_ (Below.refl _ _) rfl
                unfold execOp
                simp [go_sem, Act.eval, Act.put, h7, a6]
              · intro v w2 hr ho hd
                have h0 : v 0 = _ := hd 0 (by kernel_rfl)
                have h4 : v 4 = _ := hd 4 (by kernel_rfl)
                have h8 : v 8 = _ := hd 8 (by kernel_rfl)
                refine yieldsW_callR (f := 49) rfl (vs := #[.pointer (some ⟨ga, 0, none⟩), .int .i64 e, .int .i64 n]) (by simp [Act.eval, Act.put, h0, h4, h8]) rfl Try.func49 (by kernel_rfl) (by kernel_rfl) ?_
                refine (HTa.out w2 (ho.1 trivial)).mono fun e1 w8 ⟨he, hw, ht⟩ => ⟨_, he, (hr.trans (ht.below hr.size (fun k e => by subst e; exact hga))), ?_, ?_, ⟨rfl, hw⟩⟩
                · intro k u hk hu
                  exact match k, hk, hu with
                    | 0, hk, hu => hu
                    | 1, hk, hu => hu
                    | 2, hk, hu => hu
                    | 3, hk, hu => hu
                    | 4, hk, hu => hu
                    | 5, hk, hu => hu
                    | 6, hk, hu => hu
                    | 7, hk, hu => hu
                    | 8, hk, hu => hu
                    | 9, hk, _ => absurd rfl hk
                    | 10, hk, hu => hu
                    | 11, hk, hu => hu
                    | 12, hk, hu => hu
                    | 13, hk, hu => hu
                    | 14, hk, hu => hu
                    | 15, hk, hu => hu
                    | 16, hk, hu => hu
                    | 17, hk, hu => hu
                    | 18, hk, hu => hu
                    | 19, hk, hu => hu.turn ht (fun e => hgn e.symm)
                    | 20, hk, hu => hu
                    | _ + 21, _, _ => trivial
                · intro k hk hk2 h
                  exact match k, hk, hk2, h with
                    | 0, hk, hk2, h => absurd hk2 (by decide)
                    | 1, hk, hk2, h => absurd hk2 (by decide)
                    | 2, hk, hk2, h => absurd hk2 (by decide)
                    | 3, hk, hk2, h => absurd hk2 (by decide)
                    | 4, hk, hk2, h => absurd hk2 (by decide)
                    | 5, hk, hk2, h => absurd hk2 (by decide)
                    | 6, hk, hk2, h => absurd hk2 (by decide)
                    | 7, hk, hk2, h => absurd hk2 (by decide)
                    | 8, hk, hk2, h => absurd hk2 (by decide)
                    | 9, hk, hk2, h => absurd rfl hk
                    | 10, hk, hk2, h => absurd hk2 (by decide)
                    | 11, hk, hk2, h => absurd hk2 (by decide)
                    | 12, hk, hk2, h => absurd hk2 (by decide)
                    | 13, hk, hk2, h => absurd hk2 (by decide)
                    | 14, hk, hk2, h => absurd hk2 (by decide)
                    | 15, hk, hk2, h => absurd hk2 (by decide)
                    | 16, hk, hk2, h => absurd hk2 (by decide)
                    | 17, hk, hk2, h => absurd hk2 (by decide)
                    | 18, hk, hk2, h => absurd hk2 (by decide)
                    | 19, hk, hk2, h => ⟨fun e => absurd e (by decide), fun _ => whole_turn (h.2 rfl) ht (fun e => hgn e.symm)⟩
                    | 20, hk, hk2, h => absurd hk2 (by decide)
                    | _ + 21, _, hk2, _ => absurd hk2 (by simp)
              · intro v w2 hr hd
                refine yields_run (u := .pointer (some ⟨gb, 0, none⟩)) (w' := w2) ?_ (Below.refl _ _) rfl
                unfold execOp
                simp [go_sem, Act.eval, Act.put]
              · intro v w2 hr hd
                refine yields_run (u := .slice (some ⟨b1, o1, none⟩) L1.length c1) (w' := w2) ?_ (Below.refl _ _) rfl
                unfold execOp
                simp [go_sem, Act.eval, Act.put]
              · intro v w2 hr hd
                refine yields_run (u := .int .i64 j) (w' := w2) ?_ (Below.refl _ _) rfl
                unfold execOp
                simp [go_sem, Act.eval, Act.put]
              · intro v w2 hr hd
                have h11 : v 11 = _ := hd 11 (by kernel_rfl)
                have h12 : v 12 = _ := hd 12 (by kernel_rfl)
                exact yields_index (b := b1) (off := o1) (n := L1.length) (c := c1) (i := j) (m := 1) rfl (by simp [Act.eval, Act.put, h11, h12]) (by simp [Act.eval, Act.put, h11, h12]) hj1L Try.underlying89 (by intro w; simp [Try.sizeOf3])
              · intro v w2 hr hd
                have h13 : v 13 = _ := hd 13 (by kernel_rfl)
                have a6 : w2.cell? ⟨b1, o1 + j, none⟩ = some (.int .i64 e) := (HC1.out w2 hr)
                refine yields_run (u := .int .i64 e) (w' := w2) ?_ (Below.refl _ _) rfl
                unfold execOp
                simp [go_sem, Act.eval, Act.put, h13, a6]
              · intro v w2 hr hd
                refine yields_run (u := .slice (some ⟨b2, o2, none⟩) L2.length c2) (w' := w2) ?_ (Below.refl _ _) rfl
                unfold execOp
                simp [go_sem, Act.eval, Act.put]
              · intro v w2 hr hd
                refine yields_run (u := .int .i64 j) (w' := w2) ?_ (Below.refl _ _) rfl
                unfold execOp
                simp [go_sem, Act.eval, Act.put]
              · intro v w2 hr hd
                have h15 : v 15 = _ := hd 15 (by kernel_rfl)
                have h16 : v 16 = _ := hd 16 (by kernel_rfl)
                exact yields_index (b := b2) (off := o2) (n := L2.length) (c := c2) (i := j) (m := 1) rfl (by simp [Act.eval, Act.put, h15, h16]) (by simp [Act.eval, Act.put, h15, h16]) hj2L Try.underlying89 (by intro w; simp [Try.sizeOf3])
              · intro v w2 hr hd
                have h17 : v 17 = _ := hd 17 (by kernel_rfl)
                have a6 : w2.cell? ⟨b2, o2 + j, none⟩ = some (.int .i64 n) := (HC2.out w2 hr)
                refine yields_run (u := .int .i64 n) (w' := w2) ?_ (Below.refl _ _) rfl
                unfold execOp
                simp [go_sem, Act.eval, Act.put, h17, a6]
              · intro v w2 hr ho hd
                have h10 : v 10 = _ := hd 10 (by kernel_rfl)
                have h14 : v 14 = _ := hd 14 (by kernel_rfl)
                have h18 : v 18 = _ := hd 18 (by kernel_rfl)
                refine yieldsW_callR (f := 50) rfl (vs := #[.pointer (some ⟨gb, 0, none⟩), .int .i64 e, .int .i64 n]) (by simp [Act.eval, Act.put, h10, h14, h18]) rfl Try.func50 (by kernel_rfl) (by kernel_rfl) ?_
                refine (HTb.out w2 (ho.2 trivial)).mono fun e1 w8 ⟨he, hw, ht⟩ => ⟨_, he, (hr.trans (ht.below hr.size (fun k e => by subst e; exact hgb))), ?_, ?_, ⟨rfl, hw⟩⟩
                · intro k u hk hu
                  exact match k, hk, hu with
                    | 0, hk, hu => hu
                    | 1, hk, hu => hu
                    | 2, hk, hu => hu
                    | 3, hk, hu => hu
                    | 4, hk, hu => hu
                    | 5, hk, hu => hu
                    | 6, hk, hu => hu
                    | 7, hk, hu => hu
                    | 8, hk, hu => hu
                    | 9, hk, hu => hu.turn ht hgn
                    | 10, hk, hu => hu
                    | 11, hk, hu => hu
                    | 12, hk, hu => hu
                    | 13, hk, hu => hu
                    | 14, hk, hu => hu
                    | 15, hk, hu => hu
                    | 16, hk, hu => hu
                    | 17, hk, hu => hu
                    | 18, hk, hu => hu
                    | 19, hk, _ => absurd rfl hk
                    | 20, hk, hu => hu
                    | _ + 21, _, _ => trivial
                · intro k hk hk2 h
                  exact match k, hk, hk2, h with
                    | 0, hk, hk2, h => absurd hk2 (by decide)
                    | 1, hk, hk2, h => absurd hk2 (by decide)
                    | 2, hk, hk2, h => absurd hk2 (by decide)
                    | 3, hk, hk2, h => absurd hk2 (by decide)
                    | 4, hk, hk2, h => absurd hk2 (by decide)
                    | 5, hk, hk2, h => absurd hk2 (by decide)
                    | 6, hk, hk2, h => absurd hk2 (by decide)
                    | 7, hk, hk2, h => absurd hk2 (by decide)
                    | 8, hk, hk2, h => absurd hk2 (by decide)
                    | 9, hk, hk2, h => ⟨fun _ => whole_turn (h.1 rfl) ht hgn, fun e => absurd e (by decide)⟩
                    | 10, hk, hk2, h => absurd hk2 (by decide)
                    | 11, hk, hk2, h => absurd hk2 (by decide)
                    | 12, hk, hk2, h => absurd hk2 (by decide)
                    | 13, hk, hk2, h => absurd hk2 (by decide)
                    | 14, hk, hk2, h => absurd hk2 (by decide)
                    | 15, hk, hk2, h => absurd hk2 (by decide)
                    | 16, hk, hk2, h => absurd hk2 (by decide)
                    | 17, hk, hk2, h => absurd hk2 (by decide)
                    | 18, hk, hk2, h => absurd hk2 (by decide)
                    | 19, hk, hk2, h => absurd rfl hk
                    | 20, hk, hk2, h => absurd hk2 (by decide)
                    | _ + 21, _, hk2, _ => absurd hk2 (by simp)
              · intro v w2 hr hd
                have h9 : v 9 = _ := (hd 9 (by kernel_rfl)).1
                have h19 : v 19 = _ := (hd 19 (by kernel_rfl)).1
                refine yields_run (u := .bool false) (w' := w2) ?_ (Below.refl _ _) rfl
                unfold execOp
                simp [go_sem, Act.eval, Act.put, h9, h19]
              · intro v w5 hr hv
                have b5 := Lib.hid hr
                have W5a : Hid (Whole w5 ga 135 (rvC (takeV R e n))) := Lib.hid (hv 9 (by decide)).2
                have W5b : Hid (Whole w5 gb 99 (rvC (takeV R e n))) := Lib.hid (hv 19 (by decide)).2
                have e0 : v 0 = _ := hv 0 (by decide)
                have e1 : v 1 = _ := hv 1 (by decide)
                have e2 : v 2 = _ := hv 2 (by decide)
                have e3 : v 3 = _ := hv 3 (by decide)
                have e4 : v 4 = _ := hv 4 (by decide)
                have e5 : v 5 = _ := hv 5 (by decide)
                have e6 : v 6 = _ := hv 6 (by decide)
                have e7 : v 7 = _ := hv 7 (by decide)
                have e8 : v 8 = _ := hv 8 (by decide)
                have e9 : v 9 = _ := (hv 9 (by decide)).1
                have e10 : v 10 = _ := hv 10 (by decide)
                have e11 : v 11 = _ := hv 11 (by decide)
                have e12 : v 12 = _ := hv 12 (by decide)
                have e13 : v 13 = _ := hv 13 (by decide)
                have e14 : v 14 = _ := hv 14 (by decide)
                have e15 : v 15 = _ := hv 15 (by decide)
                have e16 : v 16 = _ := hv 16 (by decide)
                have e17 : v 17 = _ := hv 17 (by decide)
                have e18 : v 18 = _ := hv 18 (by decide)
                have e19 : v 19 = _ := (hv 19 (by decide)).1
                have e20 : v 20 = _ := hv 20 (by decide)
                rw [hfin]
                simp only [e0, e1, e2, e3, e4, e5, e6, e7, e8, e9, e10, e11, e12, e13, e14, e15, e16, e17, e18, e19, e20]
                clear hv hfin hr e0 e1 e2 e3 e4 e5 e6 e7 e8 e9 e10 e11 e12 e13 e14 e15 e16 e17 e18 e19 e20
                clear WA WB B3 HTa HTb HC1 HC2
                have l0 := take_l R e n
                have hRl : 0 ≤ (takeV R e n).l ∧ (takeV R e n).l ≤ R.l + 1 := by split at l0 <;> omega
                clear l0
                generalize takeV R e n = R' at W5a W5b hRl ⊢
                generalize takeB R e n = tb
                have HLa := Lib.hid (last_any (w := w5) W5a.out)
                have k0 : w5.cell? ⟨gb, 0, none⟩ = some (.int .i64 R'.e) := W5b.out.read 0
                have k1 : w5.cell? ⟨gb, 1, none⟩ = some (.int .i64 R'.l) := W5b.out.read 1
                have hlow0 : 0 ≤ R'.l := hRl.1
                have hlow1 : R'.l ≤ 1099511627776 + (j + 1 : Nat) := by omega
                go_wp2_with (go_at_call 51; (with_reducible refine HLa.out.mono ?_); rintro e1 w6 ⟨rfl, b6⟩; have B6 := Lib.hid b6; have k0 : w6.cell? ⟨gb, 0, none⟩ = some (.int .i64 R'.e) := (b6.cell (p := ⟨gb, 0, none⟩) W5b.out.inside).trans (W5b.out.read 0); have k1 : w6.cell? ⟨gb, 1, none⟩ = some (.int .i64 R'.l) := (b6.cell (p := ⟨gb, 1, none⟩) W5b.out.inside).trans (W5b.out.read 1); clear b6)
                go_roundw
                case rel => exact ⟨j + 1, R', by omega, by omega, by omega, by go_num, W5a.out.below B6.out W5a.out.inside, W5b.out.below B6.out W5b.out.inside, hlow0, hlow1, then_below b5.out B6.out⟩
                case measure => simp [intOf]; omega
          · obtain rfl : j = 100 := by omega
            have h3i : ¬ (100 : Int) < 100 := by omega
            go_wp2_with fail
            go_ret
            exact ⟨rfl, B3.out⟩
        · have h2i : ¬ (j : Int) < (L2.length : Int) := by omega
          go_wp2_with fail
          go_ret
          exact ⟨rfl, B3.out⟩
      · have h1i : ¬ (j : Int) < (L1.length : Int) := by omega
        go_wp2_with fail
        go_ret
        exact ⟨rfl, B3.out⟩
  · have HA := Lib.hid (newR_bad (w := w) last hg)
    have HB := Lib.hid (fun w1 => newRR_bad (w := w1) last hg)
    clear hg
    go_enter Try.func7, Try.ntmps7
    go_wp2_with (first
      | (go_at_call 48; (with_reducible refine (HB.out w1).mono ?_); rintro e w2 ⟨rfl, b2⟩; have B2 := Lib.hid (then_below B1.out b2); clear b2)
      | (go_at_call 47; (with_reducible refine HA.out.mono ?_); rintro e w1 ⟨rfl, b1⟩; have B1 := Lib.hid b1; clear b1))
    go_ret
    exact ⟨rfl, B2.out⟩
end
end Go.Proofs.Ytkofocnifncagaa.hop
