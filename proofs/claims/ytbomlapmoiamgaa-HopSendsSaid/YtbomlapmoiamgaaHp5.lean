/-
  Put, Acked (by gen_hp5.py).
-/
import Derived.Test.YtbomlapmoiamgaaHp4
set_option linter.unusedSimpArgs false
set_option linter.unusedVariables false
namespace Go.Proofs.Ytbomlapmoiamgaa.hop
open Go.ChangeShapes Go.WideShapes Go.ChangeAt Go.RowKit
open Go.Proofs.Ytbomlapmoiamgaa.opened Go.Proofs.Ytbomlapmoiamgaa.block Go.Proofs.Ytbomlapmoiamgaa.words Go.Proofs.Ytbomlapmoiamgaa.region
section
variable {B g : Nat} {S : Sn} {A : Option Addr} {c : Nat} {w w' : World}
theorem put_full {S : Sn} {t : Bs} (h : putE S t = 0) : ¬ 6000 < t.length ∧ S.L.length < 64 ∧ nextV S ≤ 1099511627776 := by
  unfold putE at h
  by_cases h6 : 6000 < t.length
  · rw [if_pos h6] at h; cases h
  · rw [if_neg h6] at h
    by_cases h64 : 64 ≤ S.L.length ∨ 1099511627776 < nextV S
    · rw [if_pos h64] at h; cases h
    · exact ⟨h6, by omega, by omega⟩
set_option maxRecDepth 100000 in
set_option maxHeartbeats 2000000 in
theorem put_any (h : SnE B w g S A c) (G : GoodS S) (t : Bs) (htl : t.length ≤ 140737488351232) : Calls Try.prog 27 #[.pointer (some ⟨g, 0, none⟩), sV t] w fun e w' => e = .returned (.tuple #[.int .i64 (putN S t), .int .i64 (putE S t)]) ∧ ∃ A' c', SnE B w' g (putV S t) A' c' ∧ TurnS w w' (SnS g A) := by
  have HN := Lib.hid (next_any h G)
  have HK := Lib.hid (fun (w1 : World) (hb : Below w.heap.size w w1) => ((h.below hb).cell.read 6 : w1.cell? ⟨g, 6, none⟩ = some (.slice A S.L.length c)))
  have HF := Lib.hid (fun (w1 : World) (hb : Below w.heap.size w w1) => ((h.below hb).cell.soft 6 : w1.frozen? ⟨g, 6, none⟩ = false))
  have HE := Lib.hid h
  have g3 := G.a0; have g4 := G.m; have g7 := G.l
  have hnl : (S.L.length : Int) ≤ 64 := by omega
  have hn0 : 0 ≤ nextV S := by unfold nextV; omega
  have hn1 : nextV S ≤ 1099511627777 := by unfold nextV; omega
  by_cases h6 : 6000 < t.length
  · have e1 : putE S t = 7 := by unfold putE; rw [if_pos h6]
    have e2 : putN S t = 0 := by unfold putN; rw [e1]; rfl
    have e3 : putV S t = S := by unfold putV; rw [e1]; rfl
    have h6i : (6000 : Int) < (t.length : Int) := by omega
    have htli : (t.length : Int) ≤ 140737488351232 := by omega
    rw [e1, e2, e3]
    clear e1 e2 e3 HN HK HF h G
    go_enter Try.func27, Try.ntmps27
    go_wp2_with fail
    go_ret2
    exact ⟨rfl, A, c, HE.out, TurnS.refl _ _⟩
  · have h6i : (t.length : Int) ≤ 6000 := by omega
    by_cases h64 : 64 ≤ S.L.length
    · have e1 : putE S t = 2 := by unfold putE; rw [if_neg h6, if_pos (.inl h64)]
      have e2 : putN S t = 0 := by unfold putN; rw [e1]; rfl
      have e3 : putV S t = S := by unfold putV; rw [e1]; rfl
      have h64i : (64 : Int) ≤ (S.L.length : Int) := by omega
      rw [e1, e2, e3]
      clear e1 e2 e3 HF h G g3 g4 h6
      generalize nextV S = nv at HN hn0 hn1
      go_enter Try.func27, Try.ntmps27
      go_wp2_with (go_at_call 50; (with_reducible refine HN.out.mono ?_); rintro e w1 ⟨rfl, b1⟩; have B1 := Lib.hid b1; have z6 := HK.out w1 b1; clear b1)
      go_ret2
      exact ⟨rfl, A, c, HE.out.below B1.out, TurnS.of B1.out⟩
    · have h64i : (S.L.length : Int) < 64 := by omega
      by_cases hx : 1099511627776 < nextV S
      · have e1 : putE S t = 2 := by unfold putE; rw [if_neg h6, if_pos (.inr hx)]
        have e2 : putN S t = 0 := by unfold putN; rw [e1]; rfl
        have e3 : putV S t = S := by unfold putV; rw [e1]; rfl
        rw [e1, e2, e3]
        clear e1 e2 e3 HF h G g3 g4 h6 h64
        generalize nextV S = nv at HN hn0 hn1 hx
        go_enter Try.func27, Try.ntmps27
        go_wp2_with (go_at_call 50; (with_reducible refine HN.out.mono ?_); rintro e w1 ⟨rfl, b1⟩; have B1 := Lib.hid b1; have z6 := HK.out w1 b1; clear b1)
        go_ret2
        exact ⟨rfl, A, c, HE.out.below B1.out, TurnS.of B1.out⟩
      · have e1 : putE S t = 0 := by unfold putE; rw [if_neg h6, if_neg (by omega)]
        have e2 : putN S t = nextV S := by unfold putN; rw [if_pos e1]
        have e3 : putV S t = { S with L := S.L ++ [⟨nextV S, t⟩] } := by unfold putV; rw [if_pos e1]
        have hxi : nextV S ≤ 1099511627776 := by omega
        rw [e1, e2, e3]
        clear e1 e2 e3 h G g3 g4 h6 hx
        generalize nextV S = nv at HN hn0 hn1 hxi ⊢
        obtain ⟨i0, hi0, hz0, hz1, hz2⟩ := infoI
        have h64n : S.L.length < 64 := by omega
        go_enter Try.func27, Try.ntmps27
        go_upto_region 6 with (go_at_call 50; (with_reducible refine HN.out.mono ?_); rintro e w1 ⟨rfl, b1⟩; have B1 := Lib.hid b1; have z6 := HK.out w1 b1; clear b1)
        have H1 := Lib.hid (HE.out.below B1.out)
        have HX := Lib.hid (show ∀ w6 g' cap', OwnG 85 2 cI w6 B (.slice (some ⟨g', 0, none⟩) (S.L.length + 1) cap') (S.L ++ [⟨nv, t⟩]) → (w1.alloc (.cells (cI ⟨nv, t⟩).toArray 85)).grownBy w6 (Value.slice A S.L.length c).ownBlock →
            w6.cell? ⟨g, 6, none⟩ = some (.slice A S.L.length c) ∧ w6.frozen? ⟨g, 6, none⟩ = false ∧ SnE B (w6.setCell ⟨g, 6, none⟩ (.slice (some ⟨g', 0, none⟩) (S.L.length + 1) cap')) g { S with L := S.L ++ [⟨nv, t⟩] } (some ⟨g', 0, none⟩) cap' ∧ TurnS w (w6.setCell ⟨g, 6, none⟩ (.slice (some ⟨g', 0, none⟩) (S.L.length + 1) cap')) (SnS g A) from fun w6 g' cap' ho hg => by
          have hc1 : Whole (w1.alloc (.cells (cI ⟨nv, t⟩).toArray 85)) g 99 _ := H1.out.cell.below (fresh1 w1 _) H1.out.cell.inside
          have hne : ∀ k, (Value.slice A S.L.length c).ownBlock = some k → k ≠ g := fun k e hk => by
            subst hk
            obtain ⟨cur, hx⟩ := OwnG.shapeT H1.out.row e
            exact obj_ne hx H1.out.cell (ty_ne (by decide)) rfl
          have hc6 : Whole w6 g 99 _ := hc1.grown hg (fun e => hne g e.symm rfl)
          have hg2 : w6.grownBy (w6.setCell ⟨g, 6, none⟩ (.slice (some ⟨g', 0, none⟩) (S.L.length + 1) cap')) (some g) := only_store (only_of_below (Below.refl _ w6) (some g)) _
          refine ⟨hc6.read 6, hc6.soft 6, ⟨?_, ?_, HE.out.low⟩, ?_⟩
          · have := hc6.store 6 (.slice (some ⟨g', 0, none⟩) (S.L.length + 1) cap')
            simpa [snC] using this
          · have hlen : (S.L ++ [(⟨nv, t⟩ : It)]).length = S.L.length + 1 := by simp
            show OwnG 85 2 cI _ B (.slice (some ⟨g', 0, none⟩) (S.L ++ [(⟨nv, t⟩ : It)]).length cap') (S.L ++ [⟨nv, t⟩])
            rw [hlen]
            refine ho.past hg2 fun k e he => ?_
            cases e
            obtain ⟨cur, hx⟩ := OwnG.shapeT ho he.symm
            exact obj_ne hx hc6 (ty_ne (by decide)) rfl
          · have t1 : TurnS w (w1.alloc (.cells (cI ⟨nv, t⟩).toArray 85)) (SnS g A) := TurnS.of (then_below B1.out (fresh1 w1 _))
            refine (t1.grown hg (fun j e => .inl (own_sns e))).grown hg2 (fun j e => .inl (.inl (Option.some.inj e).symm)))
        have HO := Lib.hid (H1.out.row.below (fresh1 w1 (.cells (cI ⟨nv, t⟩).toArray 85)))
        have HB := Lib.hid (show B ≤ (w1.alloc (.cells (cI ⟨nv, t⟩).toArray 85)).heap.size from Nat.le_trans H1.out.le (fresh1 w1 _).size)
        clear HN HK HF H1
        go_wp2_with (at_builtin; refine wpList_append_own _ rfl _ _ 69 rfl B 85 i0 (.agg #[.int .i64 0, sV []]) 2 24 Try.underlying69 hi0 hz0 hz1 hz2 rfl (by decide) _ _ _ rfl HO.out ⟨w1.heap.size, 0, none⟩ 1 1 (cI ⟨nv, t⟩) rfl rfl (whole_cells (Whole.fresh w1 85 _)) (cellsI.one _) (by unfold maxLen; omega) (by omega) HB.out ?_; intro v' w6 hown hgrow _; obtain ⟨g', cap', rfl⟩ := OwnG.succ hown; have X6 := Lib.hid (HX.out w6 g' cap' (by unfold OwnG; simpa using hown) hgrow); have k6 := X6.out.1; have f6 := X6.out.2.1; clear hown hgrow z6)
        go_ret2
        exact ⟨rfl, some ⟨g', 0, none⟩, cap', X6.out.2.2.1, X6.out.2.2.2⟩
theorem ack_not {e n : Int} (hb : ackB S e n = false) : ackV S e n = S := by
  unfold ackV
  rw [hb]
  rfl
def DelG (B : Nat) (v : Value) (L : List It) (u : Value) (w : World) : Prop := u = v ∧ OwnG 85 2 cI w B v L
theorem keeps_delG (B : Nat) (v : Value) (L : List It) : Keeps (DelG B v L) := fun _ _ _ hb h => ⟨h.1, h.2.below hb⟩
def StoG (B g : Nat) (S : Sn) (v : Value) (L : List It) (_ : Value) (w : World) : Prop := Whole w g 99 (snC S v) ∧ OwnG 85 2 cI w B v L
theorem keeps_stoG (B g : Nat) (S : Sn) (v : Value) (L : List It) : Keeps (StoG B g S v L) := fun _ _ _ hb h => ⟨h.1.below hb h.1.inside, h.2.below hb⟩
theorem whole_own_ne {v : Value} {L : List It} {cs : Array Value} (ho : OwnG 85 2 cI w B v L) (hd : Whole w g 99 cs) : some g ≠ v.ownBlock := by
  intro e
  obtain ⟨cur, hc⟩ := OwnG.shapeT ho e.symm
  exact obj_ne hc hd (ty_ne (by decide)) rfl
set_option maxRecDepth 100000 in
set_option maxHeartbeats 4000000 in
theorem acked_any (h : SnE B w g S A c) (G : GoodS S) (e n : Int) : Calls Try.prog 29 #[.pointer (some ⟨g, 0, none⟩), .int .i64 e, .int .i64 n] w fun x w' => x = .returned (.bool (ackB S e n)) ∧ SnE B w' g (ackV S e n) A c ∧ TurnS w w' (SnS g A) := by
  have HN := Lib.hid (fun (w1 : World) (hb : Below w.heap.size w w1) => next_any (h.below hb) G)
  have c0 : w.cell? ⟨g, 0, none⟩ = some (.int .i64 S.e) := h.cell.read 0
  have c3 : w.cell? ⟨g, 3, none⟩ = some (.int .i64 S.a) := h.cell.read 3
  have HE := Lib.hid h
  have g3 := G.a0; have g4 := G.m; have g7 := G.l
  by_cases h1 : e = S.e
  · subst h1
    by_cases h2 : n ≤ S.a
    · have e1 : ackB S S.e n = false := decide_eq_false (fun h => by have := h.2.1; omega)
      rw [ack_not e1, e1]
      clear e1 HN h G
      go_enter Try.func29, Try.ntmps29
      go_wp2_with fail
      go_ret
      exact ⟨rfl, HE.out, TurnS.refl _ _⟩
    · by_cases h3 : nextV S ≤ n
      · have e1 : ackB S S.e n = false := decide_eq_false (fun h => by have := h.2.2; omega)
        rw [ack_not e1, e1]
        clear e1 h G g3 g4 g7
        generalize nextV S = nv at HN h3
        go_enter Try.func29, Try.ntmps29
        go_wp2_with (go_at_call 50; (with_reducible refine (HN.out w (Below.refl _ w)).mono ?_); rintro e w1 ⟨rfl, b1⟩; have B1 := Lib.hid b1; clear b1)
        go_ret
        exact ⟨rfl, HE.out.below B1.out, TurnS.of B1.out⟩
      · have e1 : ackB S S.e n = true := decide_eq_true ⟨rfl, by omega, by omega⟩
        have hnx : n < nextV S := by omega
        have hnx2 := hnx
        unfold nextV at hnx2
        obtain ⟨j, hj⟩ : ∃ j : Nat, n - S.a = j := ⟨(n - S.a).toNat, by omega⟩
        have hj0 : 0 < j := by omega
        have hjl : j ≤ S.L.length := by omega
        have e2 : ackV S S.e n = { S with L := S.L.drop j, a := n, s := max S.s n, k := 0 } := by unfold ackV; rw [if_pos e1, hj, Int.toNat_natCast]
        have hna : S.a < n := by omega
        have hn1 : n ≤ 1099511627776 := by omega
        have hDl : (S.L.drop j).length = S.L.length - j := List.length_drop
        rw [e2, e1]
        have HD := Lib.hid (fun (w1 : World) (ho : OwnG 85 2 cI w1 B (.slice A S.L.length c) S.L) => delete_any ho g7 0 j hj0 hjl)
        simp only [List.take_zero, List.nil_append, Nat.sub_zero] at HD
        rw [← hDl] at HD
        generalize S.L.drop j = L' at HD hDl ⊢
        have HDl := Lib.hid hDl
        clear e1 e2 h2 h3 hnx2 hDl h
        go_enter Try.func29, Try.ntmps29
        generalize nextV S = nv at HN hnx
        go_upto_region 3 with (go_at_call 50; (with_reducible refine (HN.out w (Below.refl _ w)).mono ?_); rintro e w1 ⟨rfl, b1⟩; have B1 := Lib.hid b1; clear b1)
        clear c0 c3 HN
        have H1 := Lib.hid (HE.out.below B1.out)
        have OX := Lib.hid H1.out.cell
        have OR := Lib.hid H1.out.row
        have GN := Lib.hid (whole_own_ne H1.out.row H1.out.cell)
        have HB0 : Hid (B ≤ w1.heap.size) := Lib.hid H1.out.le
        have HT : Hid (TurnS w w1 (SnS g A)) := Lib.hid (TurnS.of B1.out)
        refine region_full 57 [(11, 14)] [(11, 4), (14, 4), (14, 11)] (fun k => k == 4 || k == 11 || k == 14) (fun w7 => TurnS w w7 (SnS g A) ∧ ∃ u, Whole w7 g 99 (snC S u)) ?hR ?r0 [pdOne 0 (Is (.pointer (some ⟨g, 0, none⟩))), pdOne 1 (Is (.pointer (some ⟨g, 0, none⟩))), pdOne 2 (Is (.pointer (some ⟨g, 0, none⟩))), pdOne 3 (Is (.pointer (some ⟨g, 6, none⟩))), pdOne 4 (Is (.slice A S.L.length c)), pdOne 5 (Is (.int .i64 n)), pdOne 6 (Is (.pointer (some ⟨g, 0, none⟩))), pdOne 7 (Is (.pointer (some ⟨g, 0, none⟩))), pdOne 8 (Is (.pointer (some ⟨g, 3, none⟩))), pdOne 9 (Is (.int .i64 S.a)), pdOne 10 (Is (.int .i64 (j : Int))), pdOne 11 (DelG B (.slice A L'.length c) L'), pdOne 12 (Is (.pointer (some ⟨g, 0, none⟩))), pdOne 13 (Is (.pointer (some ⟨g, 6, none⟩))), pdOne 14 (StoG B g S (.slice A L'.length c) L')] (fun k w7 => (k = 4 → Whole w7 g 99 (snC S (.slice A S.L.length c))) ∧ (k = 11 → OwnG 85 2 cI w7 B (.slice A S.L.length c) S.L) ∧ (k = 14 → ∃ u, Whole w7 g 99 (snC S u))) (by kernel_rfl) rfl (by kernel_rfl) (by kernel_rfl) (by kernel_rfl) (by kernel_rfl) ?keep ?hO ?h0 ?tell
        case hR => exact fun w7 w8 hb ⟨h1, h2⟩ => ⟨h1.later hb, h2.imp fun u hx => hx.below hb hx.inside⟩
        case r0 => exact ⟨HT.out, _, OX.out⟩
        case keep => exact ⟨keep_one (keeps_is _), keep_one (keeps_is _), keep_one (keeps_is _), keep_one (keeps_is _), keep_one (keeps_is _), keep_one (keeps_is _), keep_one (keeps_is _), keep_one (keeps_is _), keep_one (keeps_is _), keep_one (keeps_is _), keep_one (keeps_is _), keep_one (keeps_delG _ _ _), keep_one (keeps_is _), keep_one (keeps_is _), keep_one (keeps_stoG _ _ _ _ _), trivial⟩
        case hO => exact fun k w7 w8 hb ⟨h1, h2, h3⟩ => ⟨fun e => (h1 e).below hb (h1 e).inside, fun e => (h2 e).below hb, fun e => (h3 e).imp fun u hx => hx.below hb hx.inside⟩
        case h0 => exact fun k _ => ⟨fun _ => OX.out, fun _ => OR.out, fun _ => ⟨_, OX.out⟩⟩
        case tell =>
          intro fin hfin
          simp [lexPut, Act.put] at hfin
          simp only [TellF]
          refine ⟨⟨?_, ?_, ?_, ?_, ?_, ?_, ?_, ?_, ?_, ?_, ?_, ?_, ?_, ?_, ?_, trivial⟩, ?_⟩
          · intro v2 w7 hr hd
            refine yields_run (u := .pointer (some ⟨g, 0, none⟩)) (w' := w7) ?_ (Below.refl _ _) rfl
            unfold execOp
            simp [go_sem, Act.eval, Act.put]
          · intro v2 w7 hr hd
            refine yields_run (u := .pointer (some ⟨g, 0, none⟩)) (w' := w7) ?_ (Below.refl _ _) rfl
            unfold execOp
            simp [go_sem, Act.eval, Act.put]
          · intro v2 w7 hr hd
            have h1 : v2 1 = .pointer (some ⟨g, 0, none⟩) := hd 1 (by kernel_rfl)
            refine yields_run (u := .pointer (some ⟨g, 0, none⟩)) (w' := w7) ?_ (Below.refl _ _) rfl
            unfold execOp
            simp [go_sem, Act.eval, Act.put, h1]
          · intro v2 w7 hr hd
            have h2 : v2 2 = .pointer (some ⟨g, 0, none⟩) := hd 2 (by kernel_rfl)
            refine yields_run (u := .pointer (some ⟨g, 6, none⟩)) (w' := w7) ?_ (Below.refl _ _) rfl
            unfold execOp
            simp [go_sem, Act.eval, Act.put, h2]
          · intro v2 w7 hr ho hd
            have h3 : v2 3 = .pointer (some ⟨g, 6, none⟩) := hd 3 (by kernel_rfl)
            have hc : w7.cell? ⟨g, 6, none⟩ = some (.slice A S.L.length c) := (ho.1 trivial).read 6
            refine .inl (.inl ⟨.slice A S.L.length c, w7, ?_, hr, fun _ _ _ _ hu => hu, fun _ _ _ _ hu => hu, rfl⟩)
            unfold execOp
            simp [go_sem, Act.eval, Act.put, h3, hc]
          · intro v2 w7 hr hd
            refine yields_run (u := .int .i64 n) (w' := w7) ?_ (Below.refl _ _) rfl
            unfold execOp
            simp [go_sem, Act.eval, Act.put]
          · intro v2 w7 hr hd
            refine yields_run (u := .pointer (some ⟨g, 0, none⟩)) (w' := w7) ?_ (Below.refl _ _) rfl
            unfold execOp
            simp [go_sem, Act.eval, Act.put]
          · intro v2 w7 hr hd
            have h6 : v2 6 = .pointer (some ⟨g, 0, none⟩) := hd 6 (by kernel_rfl)
            refine yields_run (u := .pointer (some ⟨g, 0, none⟩)) (w' := w7) ?_ (Below.refl _ _) rfl
            unfold execOp
            simp [go_sem, Act.eval, Act.put, h6]
          · intro v2 w7 hr hd
            have h7 : v2 7 = .pointer (some ⟨g, 0, none⟩) := hd 7 (by kernel_rfl)
            refine yields_run (u := .pointer (some ⟨g, 3, none⟩)) (w' := w7) ?_ (Below.refl _ _) rfl
            unfold execOp
            simp [go_sem, Act.eval, Act.put, h7]
          · intro v2 w7 hr hd
            have h8 : v2 8 = .pointer (some ⟨g, 3, none⟩) := hd 8 (by kernel_rfl)
            obtain ⟨u, hu⟩ := hr.2
            have hc : w7.cell? ⟨g, 3, none⟩ = some (.int .i64 S.a) := hu.read 3
            refine yields_run (u := .int .i64 S.a) (w' := w7) ?_ (Below.refl _ _) rfl
            unfold execOp
            simp [go_sem, Act.eval, Act.put, h8, hc]
          · intro v2 w7 hr hd
            have h5 : v2 5 = .int .i64 n := hd 5 (by kernel_rfl)
            have h9 : v2 9 = .int .i64 S.a := hd 9 (by kernel_rfl)
            have hw : IntKind.i64.wrap (n - S.a) = (j : Int) := by rw [hj, IntKind.wrap_i64]; omega
            refine yields_run (u := .int .i64 (j : Int)) (w' := w7) ?_ (Below.refl _ _) rfl
            unfold execOp
            simp [go_sem, Act.eval, Act.put, h5, h9, hw]
          · intro v2 w7 hr ho hd
            have h4 : v2 4 = .slice A S.L.length c := hd 4 (by kernel_rfl)
            have h10 : v2 10 = .int .i64 (j : Int) := hd 10 (by kernel_rfl)
            refine .inl (yieldsW_callR (f := 51) rfl (vs := #[.slice A S.L.length c, .int .i64 ((0 : Nat) : Int), .int .i64 (j : Int)]) (by simp [Act.eval, Act.put, h4, h10]) rfl Try.func51 (by kernel_rfl) (by kernel_rfl) ?_)
            have hxn : some g ≠ (Value.slice A S.L.length c).ownBlock := GN.out
            refine (HD.out w7 (ho.2.1 trivial)).mono fun e1 w8 ⟨he, ho8, bb, hA, hg⟩ => ⟨_, he, ⟨hr.1.grown hg (fun q e => .inl (by cases e; exact .inr ⟨_, hA, rfl⟩)), hr.2.imp fun u hx => hx.grown hg (by intro e; exact hxn (by rw [hA]; exact e))⟩, ?_, ?_, rfl, ho8⟩
            · intro k2 v' hk2 hc hu
              exact match k2, hk2, hc, hu with
                | 0, _, _, hu => hu
                | 1, _, _, hu => hu
                | 2, _, _, hu => hu
                | 3, _, _, hu => hu
                | 4, _, _, hu => hu
                | 5, _, _, hu => hu
                | 6, _, _, hu => hu
                | 7, _, _, hu => hu
                | 8, _, _, hu => hu
                | 9, _, _, hu => hu
                | 10, _, _, hu => hu
                | 11, hk2, _, _ => absurd rfl hk2
                | 12, _, _, hu => hu
                | 13, _, _, hu => hu
                | 14, _, hc, _ => absurd hc (by decide)
                | _ + 15, _, _, _ => trivial
            · intro k2 hk2 hn hc2 ⟨h1, h2, h3⟩
              exact ⟨fun e => by subst e; exact absurd hc2 (by decide), fun e => absurd e hk2, fun e => (h3 e).imp fun u hx => hx.grown hg (by intro e; exact hxn (by rw [hA]; exact e))⟩
          · intro v2 w7 hr hd
            have h0 : v2 0 = .pointer (some ⟨g, 0, none⟩) := hd 0 (by kernel_rfl)
            refine yields_run (u := .pointer (some ⟨g, 0, none⟩)) (w' := w7) ?_ (Below.refl _ _) rfl
            unfold execOp
            simp [go_sem, Act.eval, Act.put, h0]
          · intro v2 w7 hr hd
            have h12 : v2 12 = .pointer (some ⟨g, 0, none⟩) := hd 12 (by kernel_rfl)
            refine yields_run (u := .pointer (some ⟨g, 6, none⟩)) (w' := w7) ?_ (Below.refl _ _) rfl
            unfold execOp
            simp [go_sem, Act.eval, Act.put, h12]
          · intro v2 w7 hr ho hd
            have h13 : v2 13 = .pointer (some ⟨g, 6, none⟩) := hd 13 (by kernel_rfl)
            obtain ⟨h11, hn11⟩ : DelG B (.slice A L'.length c) L' (v2 11) w7 := hd 11 (by kernel_rfl)
            obtain ⟨uq, hu0⟩ := ho.2.2 trivial
            have hc : w7.cell? ⟨g, 6, none⟩ = some uq := hu0.read 6
            have hf : w7.frozen? ⟨g, 6, none⟩ = false := hu0.soft 6
            have hg : w7.grownBy (w7.setCell ⟨g, 6, none⟩ (.slice A L'.length c)) (some g) := only_store (only_of_below (Below.refl _ w7) (some g)) _
            have hno := whole_own_ne hn11 hu0
            refine .inr ⟨w7.setCell ⟨g, 6, none⟩ (.slice A L'.length c), ?_, ⟨hr.1.grown hg (fun q e => .inl (.inl (Option.some.inj e).symm)), _, hu0.store 6 _⟩, ?_, ?_, hu0.store 6 _, hn11.past hg (fun k e => by cases e; exact hno)⟩
            · unfold execOp
              simp [go_sem, Act.eval, Act.put, h13, h11, hc, hf]
            · intro k2 v' hk2 hc hu
              exact match k2, hk2, hc, hu with
                | 0, _, _, hu => hu
                | 1, _, _, hu => hu
                | 2, _, _, hu => hu
                | 3, _, _, hu => hu
                | 4, _, _, hu => hu
                | 5, _, _, hu => hu
                | 6, _, _, hu => hu
                | 7, _, _, hu => hu
                | 8, _, _, hu => hu
                | 9, _, _, hu => hu
                | 10, _, _, hu => hu
                | 11, _, _, ⟨h1, h2⟩ => ⟨h1, h2.past hg (fun k e => by cases e; exact hno)⟩
                | 12, _, _, hu => hu
                | 13, _, _, hu => hu
                | 14, hk2, _, _ => absurd rfl hk2
                | _ + 15, _, _, _ => trivial
            · intro k2 hk2 hn hc2 ⟨h1, h2, h3⟩
              exact ⟨fun e => by subst e; exact absurd hc2 (by decide), fun e => by subst e; exact absurd hc2 (by decide), fun e => absurd e hk2⟩
          · intro v2 w7 hr hv
            obtain ⟨hl1, hl2⟩ : StoG B g S (.slice A L'.length c) L' (v2 14) w7 := hv 14 (by decide)
            have X7 := Lib.hid hl1
            have O7 := Lib.hid hl2
            have R7 := Lib.hid hr.1
            rw [hfin]
            clear hfin hv hl1 hl2 hr
            have f3 : w7.frozen? ⟨g, 3, none⟩ = false := X7.out.soft 3
            have k3 : w7.cell? ⟨g, 3, none⟩ = some (.int .i64 S.a) := X7.out.read 3
            have hno := Lib.hid (whole_own_ne O7.out X7.out)
            have q3 : w7.grownBy (w7.setCell ⟨g, 3, none⟩ (.int .i64 n)) (some g) := only_store (only_of_below (Below.refl _ w7) (some g)) _
            have X8 : Hid (Whole (w7.setCell ⟨g, 3, none⟩ (.int .i64 n)) g 99 (snC { S with a := n } (.slice A L'.length c))) := Lib.hid (X7.out.store 3 _)
            have O8 := Lib.hid (O7.out.past q3 (fun k e => by cases e; exact hno.out))
            have R8 := Lib.hid (R7.out.grown q3 (fun q e => .inl (.inl (Option.some.inj e).symm)))
            clear X7 O7 R7 q3 OX OR GN HB0 HT H1 HD
            go_upto_region 5 with fail
            generalize w7.setCell ⟨g, 3, none⟩ (.int .i64 n) = w8 at X8 O8 R8 ⊢
            clear f3 k3
            have f4 : w8.frozen? ⟨g, 4, none⟩ = false := X8.out.soft 4
            have k4 : w8.cell? ⟨g, 4, none⟩ = some (.int .i64 S.s) := X8.out.read 4
            go_upto_region 6 with fail
            rw [show (if S.s < n then n else S.s) = max S.s n by split <;> omega]
            clear k4 f4
            have q4 : w8.grownBy (w8.setCell ⟨g, 4, none⟩ (.int .i64 (max S.s n))) (some g) := only_store (only_of_below (Below.refl _ w8) (some g)) _
            have X9 : Hid (Whole (w8.setCell ⟨g, 4, none⟩ (.int .i64 (max S.s n))) g 99 (snC { S with a := n, s := max S.s n } (.slice A L'.length c))) := Lib.hid (X8.out.store 4 _)
            have O9 := Lib.hid (O8.out.past q4 (fun k e => by cases e; exact hno.out))
            have R9 := Lib.hid (R8.out.grown q4 (fun q e => .inl (.inl (Option.some.inj e).symm)))
            clear X8 O8 R8 q4
            generalize w8.setCell ⟨g, 4, none⟩ (.int .i64 (max S.s n)) = w9 at X9 O9 R9 ⊢
            have f5 : w9.frozen? ⟨g, 5, none⟩ = false := X9.out.soft 5
            have k5 : w9.cell? ⟨g, 5, none⟩ = some (.int .i64 S.k) := X9.out.read 5
            go_wp2_with fail
            go_ret
            have q5 : w9.grownBy (w9.setCell ⟨g, 5, none⟩ (.int .i64 0)) (some g) := only_store (only_of_below (Below.refl _ w9) (some g)) _
            exact ⟨rfl, ⟨X9.out.store 5 _, O9.out.past q5 (fun k e => by cases e; exact hno.out), HE.out.low⟩, R9.out.grown q5 (fun q e => .inl (.inl (Option.some.inj e).symm))⟩
  · have e1 : ackB S e n = false := decide_eq_false (fun h => h1 h.1)
    have h1b : (e != S.e) = true := by simpa using h1
    rw [ack_not e1, e1]
    clear e1 HN h G g3 g4 g7 h1
    go_enter Try.func29, Try.ntmps29
    go_wp2_with fail
    go_ret
    exact ⟨rfl, HE.out, TurnS.refl _ _⟩
end
end Go.Proofs.Ytbomlapmoiamgaa.hop
