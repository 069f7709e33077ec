/-
  The contract of watershedref06.Read.
-/
import Derived.Test.YtmepiogoofmbbaaGreatDoorChR
namespace Go.Proofs.YtmepiogoofmbbaaGreatDoor.chain
open Go.ChangeShapes Go.WideShapes Go.ChangeAt Go.RowKit Go.Shelf Go.Sort
open Go.Proofs.YtmepiogoofmbbaaGreatDoor.tm Go.Proofs.YtmepiogoofmbbaaGreatDoor.opened Go.Proofs.YtmepiogoofmbbaaGreatDoor.block Go.Proofs.YtmepiogoofmbbaaGreatDoor.stamp Go.Proofs.YtmepiogoofmbbaaGreatDoor.code

theorem QB.below {w w' : World} {g : Nat} {q : List UInt8 × Int} (h : QB w g q) (hb : Below w.heap.size w w') : QB w' g q := by
  obtain ⟨s, n, a, b, c, d⟩ := h
  exact ⟨s, n, a, b, c, Whole.below d hb (Whole.inside d)⟩
theorem QB.grown {w w' : World} {g : Nat} {row : Option Nat} {q : List UInt8 × Int} (h : QB w g q) (k : w.grownBy w' row) (hr : some g ≠ row) : QB w' g q := by
  obtain ⟨s, n, a, b, c, h⟩ := h
  exact ⟨s, n, a, b, c, Whole.grown h k hr⟩
theorem failQB (g : Nat) (q : List UInt8 × Int) (x : Int) (w : World) (h : QB w g q) :
    Calls Tryz.prog 32 #[.pointer (some ⟨g, 0, none⟩), .int .i64 x] w fun r w' => r = .returned (.tuple #[]) ∧ QB w' g (q.1, rFail q.2 x) ∧ w.grownBy w' (some g) := by
  obtain ⟨s, n, a, b, c, d⟩ := h
  exact (failB g s n q.2 x w d).mono fun e w' ⟨h1, h2, h3⟩ => ⟨h1, ⟨s, n, a, b, c, h2⟩, h3⟩
set_option maxRecDepth 100000 in
set_option maxHeartbeats 2000000 in
theorem chReadR_any (g : Nat) (q : List UInt8 × Int) (hl : q.1.length ≤ 9223372036854775807) (w : World) (h : QB w g q) :
    Calls Tryz.prog 13 #[.pointer (some ⟨g, 0, none⟩)] w fun e W' => ∃ D c', e = .returned (.slice D (chV q).length c') ∧ Lt W' D (chV q) ∧ QB W' g ((chQ q).1, chE q) ∧ w.grownBy W' (some g) := by
  obtain ⟨n0, n1, nl⟩ := nx_bd q (m := 64) (by omega)
  have ST := Lib.hid (stepB g q 64 hl (by omega) (by omega) w h)
  have hnn : (nx q 64).1 = (chN q : Int) := by unfold chN; omega
  have hn64 : chN q ≤ 64 := by unfold chN; omega
  have hlq := fun k => Nat.le_trans (rdN_left (nx q 64).2 k) nl
  rw [hnn] at ST
  have hgw := h.inside
  have CC := Lib.hid (fun D c' => checkR_any D c' (chL q) (chL_in q) (by have := chL_len q; omega))
  have hLlen : (chL q).length = chN q := rdN_len _ _
  rw [hLlen] at CC
  have EV : Hid ((chQ q).2 = 0 → chE q = checkE (chL q) (chL_in q)) := Lib.hid (fun h => by unfold chE; rw [if_pos h])
  have EN : Hid ((chQ q).2 ≠ 0 → chE q = (chQ q).2) := Lib.hid (fun h => by unfold chE; rw [if_neg h])
  have VV : Hid (chV q = if chE q = 0 then chL q else []) := Lib.hid rfl
  have HLd : Hid ((rdN (nx q 64).2 (chN q)).1 = chL q) := Lib.hid rfl
  have HQd : Hid ((rdN (nx q 64).2 (chN q)).2 = chQ q) := Lib.hid rfl
  generalize (nx q 64).2 = q1 at ST hlq HLd HQd
  generalize chN q = n at ST hn64 HLd HQd CC hLlen hnn
  generalize checkE (chL q) (chL_in q) = ck at CC EV
  generalize chL q = LL at CC VV HLd hLlen
  generalize chQ q = qf at EV EN HQd ⊢
  generalize chV q = V at VV ⊢
  generalize chE q = E at EV EN VV ⊢
  obtain ⟨i0, hi0, hz0, hz1, hz2⟩ := info_parts infoT
  clear hnn n0 n1 nl h
  go_enter Tryz.func13, Tryz.ntmps13
  go_wp2_with fail
  refine ST.out.mono ?_
  rintro e w1 ⟨rfl, h1, b1⟩
  have H1 := Lib.hid h1
  have hg1 : g < w1.heap.size := h1.inside
  clear h1 ST
  go_wp2_with fail
  go_loopw [3, 5] (fun l s wr => ∃ (k : Nat) (D : Option Addr) (c' : Nat), k ≤ n ∧ l = .slice D k c' ∧ s = .int .i64 k ∧ Hid (OwnT wr w1.heap.size (.slice D k c') (rdN q1 k).1) ∧ Hid (QB wr g (rdN q1 k).2) ∧ Hid (w1.grownBy wr (some g))) (fun _ s _ => n - (intOf s).toNat)
  case atStart => exact ⟨0, none, 0, Nat.zero_le _, rfl, rfl, Lib.hid (World.ownsRow_nil _ _ _ _), H1, Lib.hid ⟨rfl, rfl, rfl, Nat.le_refl _, fun _ _ _ => rfl⟩⟩
  case round =>
    obtain ⟨k, D, c', hk, rfl, rfl, HO, HQ, HB⟩ := hrel
    rename World => W1
    by_cases hlt : k < n
    · have RA := Lib.hid (readB g (rdN q1 k).2 (Nat.le_trans (hlq k) hl) W1 HQ.out)
      have EN1 : Hid ((rdN q1 (k + 1)).1 = (rdN q1 k).1 ++ [rdT (rdN q1 k).2]) := Lib.hid rfl
      have EN2 : Hid ((rdN q1 (k + 1)).2 = (rdS (rdN q1 k).2).2) := Lib.hid rfl
      have hlen := rdN_len q1 k
      generalize rdT (rdN q1 k).2 = z at RA EN1
      go_wp2_with fail
      refine RA.out.mono ?_
      rintro e w2 ⟨rfl, h2, b2⟩
      have HQ2 := Lib.hid h2
      have HO2 := Lib.hid (HO.out.keptG b2 hg1)
      have HB2 := Lib.hid (HB.out.trans b2)
      have hs2 := HB2.out.size
      have HO3 : Hid (w2.ownsRow w1.heap.size 49 5 (.slice D k c') k ((rdN q1 k).1.flatMap cT)) := Lib.hid (by have := HO2.out; unfold OwnT at this; rwa [hlen] at this)
      have HGE := Lib.hid HO2.out.ge
      clear RA h2 b2 HO HQ HB HO2
      go_wp2_with (at_builtin; refine wpList_append_own _ rfl _ _ 22 rfl w1.heap.size 49 i0 (.agg #[.int .u32 T0.e, .int .i64 T0.d, .int .u32 T0.a, .int .u32 T0.b, .int .u32 T0.c]) 5 32 Tryz.underlying22 hi0 hz0 hz1 hz2 rfl (by decide) _ _ _ rfl (HO3.out.alloc _) ⟨_, 0, none⟩ 1 1 (cT z) rfl rfl (cells_new _ _ _) (one_cT z) (by simp [maxLen]; omega) (by omega) (by simp; omega) ?_; intro v' w5 hown' hgrow _; have HB5 := Lib.hid (grown_own (HB2.out.trans (grown_below (fresh1 w2 (.cells (#[.int .u32 z.e, .int .i64 z.d, .int .u32 z.a, .int .u32 z.b, .int .u32 z.c]) 49)))) hgrow HGE.out); have HQ5 := Lib.hid (QB.grown (HQ2.out.alloc (.cells (#[.int .u32 z.e, .int .i64 z.d, .int .u32 z.a, .int .u32 z.b, .int .u32 z.c]) 49)) hgrow (fun e => by have := HGE.out g e.symm; omega)); obtain ⟨g', cap', rfl⟩ := ownsRow_succ hown'; have HO5 := Lib.hid hown'; clear hown' hgrow)
      go_roundw
      case rel => exact ⟨k + 1, some ⟨g', 0, none⟩, cap', by omega, rfl, by go_num, Lib.hid (by have := HO5.out; unfold OwnT; rw [EN1.out, List.length_append, List.flatMap_append, hlen]; simpa using this), by rw [EN2.out]; exact HQ5, HB5⟩
      case measure => simp [intOf]; omega
    · have hkk : k = n := by omega
      subst hkk
      rw [HLd.out] at HO
      rw [HQd.out] at HQ
      have HLs := Lib.hid HO.out.lies
      have he0 := HQ.out.err
      by_cases he : qf.2 = 0
      · have hE := EV.out he
        subst hE
        rw [he] at he0
        by_cases hc : E = 0
        · rw [if_pos hc] at VV
          obtain rfl : V = LL := VV.out
          subst hc
          go_wp2_with fail
          refine (CC.out _ _ _ HLs.out).mono ?_
          rintro e w3 ⟨rfl, b3⟩
          have Q3 := QB.below HQ.out b3
          have L3 := Lib.hid (HLs.out.below b3)
          have FA := Lib.hid (failQB g qf 0 w3 Q3)
          have GE := Lib.hid HO.out.ge
          go_wp2_with fail
          refine FA.out.mono ?_
          rintro e w4 ⟨rfl, Q4, b4⟩
          rw [he] at Q4
          have e4 := Q4.err
          have L4 := L3.out.grownG b4 (fun ad ea => by
            intro e
            have := GE.out ad.block (by rw [ea]; rfl)
            omega)
          go_wp2_with fail
          go_ret
          exact ⟨D, c', by rw [hLlen]; rfl, L4, Q4, b1.trans (HB.out.trans ((grown_below b3).trans b4))⟩
        · rw [if_neg hc] at VV
          obtain rfl : V = [] := VV.out
          go_wp2_with fail
          refine (CC.out _ _ _ HLs.out).mono ?_
          rintro e w3 ⟨rfl, b3⟩
          have Q3 := QB.below HQ.out b3
          have FA := Lib.hid (failQB g qf E w3 Q3)
          go_wp2_with fail
          refine FA.out.mono ?_
          rintro e w4 ⟨rfl, Q4, b4⟩
          rw [he] at Q4
          have e4 : w4.cell? ⟨g, 2, none⟩ = some (.int .i64 E) := Q4.err
          go_wp2_with fail
          go_ret
          exact ⟨none, 0, rfl, Lt.nil _ _, Q4, b1.trans (HB.out.trans ((grown_below b3).trans b4))⟩
      · have hE := EN.out he
        subst hE
        rw [if_neg he] at VV
        obtain rfl : V = [] := VV.out
        go_wp2_with fail
        go_ret
        first | exact ⟨none, 0, rfl, Lt.nil _ _, HQ.out, b1.trans HB.out⟩ | exact ⟨none, ⟨0, rfl⟩, Lt.nil _ _, HQ.out, b1.trans HB.out⟩
end Go.Proofs.YtmepiogoofmbbaaGreatDoor.chain
