/-
  Records one by one by an operator: the document's Each.
-/
import Derived.Test.YtfjfohkdlikpiaaOn1R
import Derived.Test.YtfjfohkdlikpiaaOn2
import Derived.Test.YtfjfohkdlikpiaaRg2
namespace Go.Proofs.Ytfjfohkdlikpiaa.region
open Go.RowKit Go.Proofs.Ytfjfohkdlikpiaa.block
theorem tells_run {P : Program} {W0 : World} {o : Oper} {ρ : Operand → Value} {u : Value} (h : ∀ w, Below W0.heap.size W0 w → (execOp ρ o).run P w = .ok (.value u) w) : Tells P W0 o ρ u := fun w hb => .inl (h w hb)
theorem tells_index {P : Program} {W0 : World} {o : Oper} {ρ : Operand → Value} {ty : TypeId} {x y : Operand} (ho : o.op = .indexAddr ty x y) {b off n c i m : Nat} {e : TypeId} (hx : ρ x = .slice (some ⟨b, off, none⟩) n c) (hy : ρ y = .int .i64 i) (hi : i < n)
    (ht : P.underlying ty = some (.slice e)) (hs : ∀ w, (sizeOf e).run P w = .ok m w) : Tells P W0 o ρ (.pointer (some ⟨b, off + i * m, none⟩)) := by
  refine tells_run fun w _ => ?_
  have h1 : 0 ≤ (i : Int) ∧ (i : Int) < (n : Int) := by omega
  unfold execOp
  simp [ho, hx, hy, go_sem, Instr.indexAt, Sem.run_bind, run_underlying ht, hs, h1, asIntOf, hi]
end Go.Proofs.Ytfjfohkdlikpiaa.region
namespace Go.Proofs.Ytfjfohkdlikpiaa.oper
open Go.ChangeShapes Go.WideShapes Go.ChangeAt Go.RowKit
open Go.Proofs.Ytfjfohkdlikpiaa.tm Go.Proofs.Ytfjfohkdlikpiaa.opened Go.Proofs.Ytfjfohkdlikpiaa.block Go.Proofs.Ytfjfohkdlikpiaa.region Go.Proofs.Ytfjfohkdlikpiaa.data Go.Proofs.Ytfjfohkdlikpiaa.num

set_option maxRecDepth 100000 in
set_option maxHeartbeats 4000000 in
theorem eachR_any (o : Od) (io : o.In) (A : Option Addr) (c : Nat) (L : List Rc) (iL : InR L) (mL : L.length ≤ 4096) (w : World) (hL : Lr w A L) :
    Calls Try.prog 13 #[.agg (odV o), .slice A L.length c] w fun e W' => ∃ B c', e = .returned (.slice B (eachV o.k o.x o.y L).length c') ∧ OwnR W' w.heap.size (.slice B (eachV o.k o.x o.y L).length c') (eachV o.k o.x o.y L) ∧ Below w.heap.size w W' := by
  have HLr := Lib.hid hL
  have HI := Lib.hid iL
  have ON := Lib.hid (fun x ix w0 => oneR_any o x io ix w0)
  have WB := Lib.hid (Whole.fresh w 23 (odV o))
  have BB := Lib.hid (fresh0 w (.cells (odV o) 23))
  clear hL iL
  obtain ⟨i0, hi0, hz0, hz1, hz2⟩ := infoR_parts
  go_enter Try.func13, Try.ntmps13
  go_wp2_with fail
  go_loopw [5, 6] (fun v5 s wr => ∃ (k : Nat) (N : List Rc) (D : Option Addr) (c' : Nat), k ≤ L.length ∧ v5 = .slice D N.length c' ∧ s = .int .i64 k ∧ Hid (N = eachV o.k o.x o.y (L.take k)) ∧ Hid (OwnR wr (w.heap.size + 1) (.slice D N.length c') N) ∧ Hid (Below w.heap.size w wr) ∧ Hid (w.heap.size + 1 ≤ wr.heap.size) ∧ Hid (Whole wr w.heap.size 23 (odV o))) (fun _ s _ => L.length - (intOf s).toNat)
  case atStart => exact ⟨0, [], none, 0, Nat.zero_le _, rfl, rfl, Lib.hid (by rw [List.take_zero]; rfl), Lib.hid (ownG_nil _ _), BB, Lib.hid (by simp), WB⟩
  case round =>
    obtain ⟨k, N, D, c', hk, rfl, rfl, HN, HO, HB, HS, HW⟩ := hrel
    clear WB BB
    by_cases hlt : k < L.length
    · obtain ⟨x, hx, hxm⟩ := get_ltR hlt
      obtain ⟨b1, o1, hA, hb1, c0, c1⟩ := at_rc (HLr.out.below HB.out) hx
      subst hA
      have HX := Lib.hid hx
      have K := Lib.hid (fun w0 => ON.out x (HI.out x hxm) w0)
      have hN4 : N.length ≤ 4096 := by
        rw [HN.out]
        refine Nat.le_trans (eachV_len _ _ _ _) ?_
        rw [List.length_take]; omega
      obtain ⟨r0, r1, r2, r3, r4, r5⟩ : _ ∧ _ ∧ _ ∧ _ ∧ _ ∧ _ := ⟨HW.out.read 0, HW.out.read 1, HW.out.read 2, HW.out.read 3, HW.out.read 4, HW.out.read 5⟩
      have hbl : w.heap.size < wr.heap.size := HS.out
      clear hx hxm
      cases hz : oneV o.k o.x o.y x with
      | none =>
        rw [hz] at K
        have HZ := Lib.hid hz
        clear hz
        simp only [resV] at K
        go_upto_region 5 with fail
        refine region_one2 9 10 30 25 #[.int .i64 0, .int .i64 0] #[.int .i64 0, .int .i64 0]
          [.agg (odV o), .slice (some ⟨b1, o1, none⟩) L.length c, .int .i64 (k : Nat), .pointer (some ⟨b1, o1 + k * 2, none⟩), .agg #[.int .i64 x.k, .int .i64 x.v], .tuple #[.agg #[.int .i64 0, .int .i64 0], .bool false], .tuple #[.agg #[.int .i64 0, .int .i64 0], .bool false], .agg #[.int .i64 0, .int .i64 0], .bool false, undef, undef, .bool false] (by kernel_rfl) rfl (by kernel_rfl) rfl rfl rfl rfl rfl rfl (by kernel_rfl) (by kernel_rfl) rfl (by simp [Value.oneCell']) (by kernel_rfl) ?_ ?_
        · intro w ρ
          simp [execOp, go_sem]
        intro fin hfin
        simp [lexPut, val, kind1, Act.put] at hfin
        refine ⟨fun n => by rw [hfin]; rfl, ⟨fun _ n => tells_load rfl (by rw [hfin]; rfl) (show Whole wr.drew w.heap.size 23 (odV o) from HW.out) Try.underlying23 rfl (by kernel_rfl),
          fun _ n => tells_move rfl (by rw [hfin]; rfl),
          fun _ n => tells_move rfl (by rw [hfin]; rfl),
          fun _ n => tells_index (b := b1) (off := o1) (n := L.length) (c := c) (i := k) (m := 2) rfl (by rw [hfin]; rfl) (by rw [hfin]; rfl) hlt Try.underlying26 (by intro w; simp [Try.sizeOf25]),
          fun _ n => tells_run fun w7 hb => by
            have k0 := (hb.cell (p := ⟨b1, o1 + k * 2, none⟩) hb1).trans c0
            have k1 := (hb.cell (p := ⟨b1, o1 + k * 2 + 1, none⟩) hb1).trans c1
            rw [hfin]
            unfold execOp
            simp [go_sem, Act.eval, k0, k1],
          fun _ n => tells_call rfl (by rw [hfin]; simp [Act.eval]) rfl Try.func7 (by kernel_rfl) (by kernel_rfl) K.out,
          fun _ n => tells_move rfl (by rw [hfin]; rfl),
          fun _ n => tells_extract rfl (by rw [hfin]; rfl) rfl,
          fun _ n => tells_extract rfl (by rw [hfin]; rfl) rfl,
          (fun h => by simp [kind1] at h),
          (fun h => by simp [kind1] at h),
          fun _ n => tells_assign rfl (by rw [hfin]; rfl), trivial⟩, ?_⟩
        intro n w3 g2 hm B3 W3 hge
        rw [hfin, hm]
        clear hfin hm n fin
        clear r0 r1 r2 r3 r4 r5 c0 c1 hge
        have HB3 := Lib.hid (HB.out.trans (B3.mono HB.out.size))
        have HW3 := Lib.hid (HW.out.below B3 HW.out.inside)
        go_wp2_with fail
        go_roundw
        case rel => exact ⟨k + 1, N, D, c', by omega, rfl, by go_num, Lib.hid (by rw [each_no HX.out HZ.out]; exact HN.out), Lib.hid (HO.out.below B3), HB3, Lib.hid (Nat.le_trans HS.out B3.size), Lib.hid (HW.out.below B3 HW.out.inside)⟩
        case measure => simp [intOf]; omega
      | some y =>
        rw [hz] at K
        have HZ := Lib.hid hz
        clear hz
        simp only [resV] at K
        go_upto_region 5 with fail
        refine region_one2 9 10 30 25 #[.int .i64 0, .int .i64 0] #[.int .i64 y.k, .int .i64 y.v]
          [.agg (odV o), .slice (some ⟨b1, o1, none⟩) L.length c, .int .i64 (k : Nat), .pointer (some ⟨b1, o1 + k * 2, none⟩), .agg #[.int .i64 x.k, .int .i64 x.v], .tuple #[.agg #[.int .i64 y.k, .int .i64 y.v], .bool true], .tuple #[.agg #[.int .i64 y.k, .int .i64 y.v], .bool true], .agg #[.int .i64 y.k, .int .i64 y.v], .bool true, undef, undef, .bool true] (by kernel_rfl) rfl (by kernel_rfl) rfl rfl rfl rfl rfl rfl (by kernel_rfl) (by kernel_rfl) rfl (by simp [Value.oneCell']) (by kernel_rfl) ?_ ?_
        · intro w ρ
          simp [execOp, go_sem]
        intro fin hfin
        simp [lexPut, val, kind1, Act.put] at hfin
        refine ⟨fun n => by rw [hfin]; rfl, ⟨fun _ n => tells_load rfl (by rw [hfin]; rfl) (show Whole wr.drew w.heap.size 23 (odV o) from HW.out) Try.underlying23 rfl (by kernel_rfl),
          fun _ n => tells_move rfl (by rw [hfin]; rfl),
          fun _ n => tells_move rfl (by rw [hfin]; rfl),
          fun _ n => tells_index (b := b1) (off := o1) (n := L.length) (c := c) (i := k) (m := 2) rfl (by rw [hfin]; rfl) (by rw [hfin]; rfl) hlt Try.underlying26 (by intro w; simp [Try.sizeOf25]),
          fun _ n => tells_run fun w7 hb => by
            have k0 := (hb.cell (p := ⟨b1, o1 + k * 2, none⟩) hb1).trans c0
            have k1 := (hb.cell (p := ⟨b1, o1 + k * 2 + 1, none⟩) hb1).trans c1
            rw [hfin]
            unfold execOp
            simp [go_sem, Act.eval, k0, k1],
          fun _ n => tells_call rfl (by rw [hfin]; simp [Act.eval]) rfl Try.func7 (by kernel_rfl) (by kernel_rfl) K.out,
          fun _ n => tells_move rfl (by rw [hfin]; rfl),
          fun _ n => tells_extract rfl (by rw [hfin]; rfl) rfl,
          fun _ n => tells_extract rfl (by rw [hfin]; rfl) rfl,
          (fun h => by simp [kind1] at h),
          (fun h => by simp [kind1] at h),
          fun _ n => tells_assign rfl (by rw [hfin]; rfl), trivial⟩, ?_⟩
        intro n w3 g2 hm B3 W3 hge
        rw [hfin, hm]
        clear hfin hm n fin
        clear r0 r1 r2 r3 r4 r5 c0 c1 hge
        have HB3 := Lib.hid (HB.out.trans (B3.mono HB.out.size))
        have HO3 := Lib.hid ((HO.out.below B3).below (fresh0 w3 (.cells #[.int .i64 y.k, .int .i64 y.v] 25)))
        have HS3 := Lib.hid (Nat.le_trans HS.out B3.size)
        have HW3 := Lib.hid ((HW.out.below B3 HW.out.inside).below (fresh0 w3 (.cells #[.int .i64 y.k, .int .i64 y.v] 25)) (HW.out.below B3 HW.out.inside).inside)
        obtain ⟨k0, k1⟩ : _ ∧ _ := ⟨W3.read 0, W3.read 1⟩
        clear B3 W3
        go_wp2_with (at_builtin; refine wpList_append_own _ rfl _ _ 26 rfl (w.heap.size + 1) 25 i0 (.agg #[.int .i64 0, .int .i64 0]) 2 16 Try.underlying26 hi0 hz0 hz1 hz2 rfl (by decide) _ N.length (N.flatMap cR) rfl HO3.out ⟨w3.heap.size, 0, none⟩ 1 1 (cR y) rfl rfl (cell_newG _ _ _) (cellsR.one y) (by unfold maxLen; omega) (by omega) (by have := HS3.out; simp; omega) ?_; intro v' w5 hown' hgrow _; obtain ⟨g, cap', rfl⟩ := OwnG.succ hown'; have HO5 := Lib.hid (own_snoc hown'); have HB5 := Lib.hid ((HB3.out.alloc HB3.out.size (.cells #[.int .i64 y.k, .int .i64 y.v] 25)).grown hgrow (by have := HB3.out.size; simp; omega) (fun q e => Nat.le_trans (Nat.le_succ _) (HO.out.lt q e).1)); have HW5 := Lib.hid (HW3.out.grown hgrow (own_off HO3.out (Nat.lt_succ_self _))); have HS5 := Lib.hid (Nat.le_trans HS3.out (Nat.le_trans (by simp) hgrow.size)); clear hown' hgrow)
        have HN5 := Lib.hid (show N ++ [y] = eachV o.k o.x o.y (L.take (k + 1)) by rw [each_yes HX.out HZ.out, ← HN.out])
        go_roundw
        case rel => exact ⟨k + 1, N ++ [y], some ⟨g, 0, none⟩, cap', by omega, by simp, by go_num, HN5, Lib.hid (by have h := HO5.out; rw [List.length_append]; exact h), HB5, HS5, HW5⟩
        case measure => simp [intOf]; omega
    · obtain rfl : k = L.length := by omega
      rw [List.take_length] at HN
      go_wp2_with fail
      go_ret
      have e := HN.out
      exact ⟨D, c', by rw [← e]; rfl, by rw [← e]; exact HO.out.low (Nat.le_succ _), HB.out⟩
end Go.Proofs.Ytfjfohkdlikpiaa.oper
