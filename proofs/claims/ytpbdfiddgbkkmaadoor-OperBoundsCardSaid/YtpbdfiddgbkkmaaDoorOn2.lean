/-
  Records one by one by an operator: oper.Each.
-/
import Derived.Test.YtpbdfiddgbkkmaaDoorOn1
import Derived.Test.YtpbdfiddgbkkmaaDoorDor
namespace Go.Proofs.YtpbdfiddgbkkmaaDoor.oper
open Go.ChangeShapes Go.WideShapes Go.ChangeAt Go.RowKit
open Go.Proofs.YtpbdfiddgbkkmaaDoor.tm Go.Proofs.YtpbdfiddgbkkmaaDoor.opened Go.Proofs.YtpbdfiddgbkkmaaDoor.block Go.Proofs.YtpbdfiddgbkkmaaDoor.region Go.Proofs.YtpbdfiddgbkkmaaDoor.data Go.Proofs.YtpbdfiddgbkkmaaDoor.num

set_option maxRecDepth 100000 in
set_option maxHeartbeats 4000000 in
theorem each_any (o : Od) (io : o.In) (A : Option Addr) (c : Nat) (L : List Rc) (iL : InR L) (mL : L.length ≤ 4096) (w : World) (hL : Lr w A L) :
    Calls Tryd.prog 7 #[.agg (odV o), .slice A L.length c] w fun e W' => ∃ B c', e = .returned (.slice B (eachV o.k o.x o.y L).length c') ∧ OwnR W' w.heap.size (.slice B (eachV o.k o.x o.y L).length c') (eachV o.k o.x o.y L) ∧ Below w.heap.size w W' := by
  have HLr := Lib.hid hL
  have HI := Lib.hid iL
  have ON := Lib.hid (fun x ix w0 => one_any o x io ix w0)
  have WB := Lib.hid (Whole.fresh w 27 (odV o))
  have BB := Lib.hid (fresh0 w (.cells (odV o) 27))
  clear hL iL
  obtain ⟨i0, hi0, hz0, hz1, hz2⟩ := infoR_parts
  go_enter Tryd.func7, Tryd.ntmps7
  go_wp2_with fail
  go_loopw [5, 12] (fun v5 s wr => ∃ (k : Nat) (N : List Rc) (D : Option Addr) (c' : Nat), k ≤ L.length ∧ v5 = .slice D N.length c' ∧ s = .int .i64 k ∧ Hid (N = eachV o.k o.x o.y (L.take k)) ∧ Hid (OwnR wr (w.heap.size + 1) (.slice D N.length c') N) ∧ Hid (Below w.heap.size w wr) ∧ Hid (w.heap.size + 1 ≤ wr.heap.size) ∧ Hid (Whole wr w.heap.size 27 (odV o))) (fun _ s _ => L.length - (intOf s).toNat)
  case atStart => exact ⟨0, [], none, 0, Nat.zero_le _, rfl, rfl, Lib.hid (by rw [List.take_zero]; rfl), Lib.hid (ownG_nil _ _), BB, Lib.hid (by simp), WB⟩
  case round =>
    obtain ⟨k, N, D, c', hk, rfl, rfl, HN, HO, HB, HS, HW⟩ := hrel
    clear WB BB
    by_cases hlt : k < L.length
    · obtain ⟨x, hx, hxm⟩ := get_ltR hlt
      obtain ⟨b1, o1, hA, hb1, c0, c1⟩ := at_rc (HLr.out.below HB.out) hx
      subst hA
      have HX := Lib.hid hx
      have K := Lib.hid (fun w0 => ON.out x (HI.out x hxm) w0)
      have hN4 : N.length ≤ 4096 := by
        rw [HN.out]
        refine Nat.le_trans (eachV_len _ _ _ _) ?_
        rw [List.length_take]; omega
      obtain ⟨r0, r1, r2, r3, r4, r5⟩ : _ ∧ _ ∧ _ ∧ _ ∧ _ ∧ _ := ⟨HW.out.read 0, HW.out.read 1, HW.out.read 2, HW.out.read 3, HW.out.read 4, HW.out.read 5⟩
      have hbl : w.heap.size < wr.heap.size := HS.out
      clear hx hxm
      cases hz : oneV o.k o.x o.y x with
      | none =>
        rw [hz] at K
        have HZ := Lib.hid hz
        clear hz
        simp only [resV] at K
        go_wp2_with (go_at_call 16; refine (K.out _).mono ?_; rintro e w2 ⟨rfl, b2⟩; have B2 := Lib.hid ((fresh0 wr (.cells #[.int .i64 x.k, .int .i64 x.v] 33)).trans (b2.mono (fresh0 wr (.cells #[.int .i64 x.k, .int .i64 x.v] 33)).size)); clear b2)
        have B3 := B2.out.trans ((fresh0 w2 (.cells #[.int .i64 0, .int .i64 0] 33)).mono B2.out.size)
        generalize w2.alloc (.cells #[.int .i64 0, .int .i64 0] 33) = w3 at B3 ⊢
        have HB3 := Lib.hid (HB.out.trans (B3.mono HB.out.size))
        go_roundw
        case rel => exact ⟨k + 1, N, D, c', by omega, rfl, by go_num, Lib.hid (by rw [each_no HX.out HZ.out]; exact HN.out), Lib.hid (HO.out.below B3), HB3, Lib.hid (Nat.le_trans HS.out B3.size), Lib.hid (HW.out.below B3 HW.out.inside)⟩
        case measure => simp [intOf]; omega
      | some y =>
        rw [hz] at K
        have HZ := Lib.hid hz
        clear hz
        simp only [resV] at K
        go_upto_region 6 with (go_at_call 16; refine (K.out _).mono ?_; rintro e w2 ⟨rfl, b2⟩; have B2 := Lib.hid ((fresh0 wr (.cells #[.int .i64 x.k, .int .i64 x.v] 33)).trans (b2.mono (fresh0 wr (.cells #[.int .i64 x.k, .int .i64 x.v] 33)).size)); clear b2)
        change Code.wp _ _ _ _ (w2.alloc (.cells #[.int .i64 y.k, .int .i64 y.v] 33))
        have B3 := B2.out.trans ((fresh0 w2 (.cells #[.int .i64 y.k, .int .i64 y.v] 33)).mono B2.out.size)
        have W3 := Whole.fresh w2 33 #[.int .i64 y.k, .int .i64 y.v]
        generalize w2.alloc (.cells #[.int .i64 y.k, .int .i64 y.v] 33) = w3 at B3 W3 ⊢
        generalize w2.heap.size = g2 at W3 ⊢
        have HB3 := Lib.hid (HB.out.trans (B3.mono HB.out.size))
        have HO3 := Lib.hid ((HO.out.below B3).below (fresh0 w3 (.cells #[.int .i64 y.k, .int .i64 y.v] 33)))
        have HS3 := Lib.hid (Nat.le_trans HS.out B3.size)
        have HW3 := Lib.hid ((HW.out.below B3 HW.out.inside).below (fresh0 w3 (.cells #[.int .i64 y.k, .int .i64 y.v] 33)) (HW.out.below B3 HW.out.inside).inside)
        obtain ⟨k0, k1⟩ : _ ∧ _ := ⟨W3.read 0, W3.read 1⟩
        clear B3 W3 B2
        go_wp2_with (at_builtin; refine wpList_append_own _ rfl _ _ 24 rfl (w.heap.size + 1) 33 i0 (.agg #[.int .i64 0, .int .i64 0]) 2 16 Tryd.underlying24 hi0 hz0 hz1 hz2 rfl (by decide) _ N.length (N.flatMap cR) rfl HO3.out ⟨w3.heap.size, 0, none⟩ 1 1 (cR y) rfl rfl (cell_newG _ _ _) (cellsR.one y) (by unfold maxLen; omega) (by omega) (by have := HS3.out; simp; omega) ?_; intro v' w5 hown' hgrow _; obtain ⟨g, cap', rfl⟩ := OwnG.succ hown'; have HO5 := Lib.hid (own_snoc hown'); have HB5 := Lib.hid ((HB3.out.alloc HB3.out.size (.cells #[.int .i64 y.k, .int .i64 y.v] 33)).grown hgrow (by have := HB3.out.size; simp; omega) (fun q e => Nat.le_trans (Nat.le_succ _) (HO.out.lt q e).1)); have HW5 := Lib.hid (HW3.out.grown hgrow (own_off HO3.out (Nat.lt_succ_self _))); have HS5 := Lib.hid (Nat.le_trans HS3.out (Nat.le_trans (by simp) hgrow.size)); clear hown' hgrow)
        have HN5 := Lib.hid (show N ++ [y] = eachV o.k o.x o.y (L.take (k + 1)) by rw [each_yes HX.out HZ.out, ← HN.out])
        go_roundw
        case rel => exact ⟨k + 1, N ++ [y], some ⟨g, 0, none⟩, cap', by omega, by simp, by go_num, HN5, Lib.hid (by have h := HO5.out; rw [List.length_append]; exact h), HB5, HS5, HW5⟩
        case measure => simp [intOf]; omega
    · obtain rfl : k = L.length := by omega
      rw [List.take_length] at HN
      go_wp2_with fail
      go_ret
      have e := HN.out
      exact ⟨D, c', by rw [← e]; rfl, by rw [← e]; exact HO.out.low (Nat.le_succ _), HB.out⟩
end Go.Proofs.YtpbdfiddgbkkmaaDoor.oper
