/-
  The document's sender: Acked.
-/
import Derived.Test.YtbomlapmoiamgaaSr2
import Derived.StillTailTactics
set_option linter.unusedSimpArgs false
set_option linter.unusedVariables false
namespace Go.Proofs.Ytbomlapmoiamgaa.hop
open Go.ChangeShapes Go.WideShapes Go.ChangeAt Go.RowKit
open Go.Proofs.Ytbomlapmoiamgaa.opened Go.Proofs.Ytbomlapmoiamgaa.block Go.Proofs.Ytbomlapmoiamgaa.words Go.Proofs.Ytbomlapmoiamgaa.region
open Go.Proofs.Ytbomlapmoiamgaa.wan (WB WObj not_wobj)
theorem ackR_not {S : Sn} {e n : Int} (hb : ackB S e n = false) : ackV S e n = S := by
  unfold ackV
  rw [hb]
  rfl
def FinA (g : Nat) (S : Sn) (v : Value) (_ : Value) (w : World) : Prop := Whole w g 75 (rnC S v)
theorem keeps_finA (g : Nat) (S : Sn) (v : Value) : Keeps (FinA g S v) := fun _ _ _ hb h => Whole.below h hb (Whole.inside h)
theorem wr_turn {w w' : World} {B g : Nat} {cs : Array Value} (hc : Whole w g 75 cs) (hB : B ≤ g) (t : TurnS w w' (fun k => k = g)) : WR B w w' :=
  ⟨t.below (Nat.le_trans hB (Nat.le_of_lt hc.inside)) (fun k e => by rw [e]; exact hB), fun k o ho hn => by
    rw [t.block k (Array.getElem?_eq_some_iff.1 ho).1 fun e => ?_]
    · exact ho
    · subst e
      exact hn ⟨_, _, .inl (Option.some.inj (ho.symm.trans hc))⟩⟩
section
variable {w w' : World} {B g : Nat} {S : Sn} {v : Value}
/-- What a row becomes that is cut at its front. -/
theorem RowO.cut (h : RowO w B v S.L) (j : Nat) (hj0 : 0 < j) (hj : j ≤ S.L.length) : ∃ A c A' c', v = .slice A S.L.length c ∧ S.L.length ≤ c ∧ (∃ b o, A = some ⟨b, o, none⟩) ∧
    (∀ W : World, (Instr.sliceAt 67 (.slice A S.L.length c) (some (.int .i64 (j : Int))) none none).run Try.prog W = .ok (.slice A' (S.L.length - j) c') W) ∧ RowO w B (.slice A' (S.L.length - j) c') (S.L.drop j) ∧ (Value.slice A' (S.L.length - j) c').ownBlock = v.ownBlock := by
  rcases h with ⟨h0, -⟩ | ⟨b, D, c, rfl, ho⟩
  · rw [h0] at hj; simp at hj; omega
  · have hroom := OwnG.room ho
    rw [List.length_append] at hroom
    have hlc : S.L.length ≤ c := by omega
    by_cases hc : c = j
    · have hlj : S.L.length = j := by omega
      refine ⟨_, c, some ⟨b, D.length * 2, none⟩, 0, rfl, hlc, ⟨_, _, rfl⟩, fun W => ?_, .inl ⟨List.drop_of_length_le (by omega), _, .inr ⟨b, _, rfl, OwnG.above ho rfl, OwnG.shapeT ho rfl⟩, by rw [hlj, Nat.sub_self]⟩, rfl⟩
      have := hlj
      subst hc
      rw [hlj, Nat.sub_self]
      have hcc : (c : Int) ≤ c := Int.le_refl _
      go_simp
    · have hjc : j < c := by omega
      have hD : (D ++ S.L.take j).length = D.length + j := by rw [List.length_append, List.length_take]; omega
      refine ⟨_, c, some ⟨b, D.length * 2 + j * 2, none⟩, c - j, rfl, hlc, ⟨_, _, rfl⟩, fun W => ?_, .inr ⟨b, D ++ S.L.take j, c - j, ?_, ?_⟩, rfl⟩
      · have h1 : j ≤ c := by omega
        go_simp
      · rw [hD, List.length_drop, show (D.length + j) * 2 = D.length * 2 + j * 2 by omega]
      · rw [List.append_assoc, List.take_append_drop, hD, show D.length + j + (c - j) = D.length + c by omega]
        exact ho
set_option maxRecDepth 100000 in
set_option maxHeartbeats 4000000 in
theorem ackedR_any (h : RnE B w g S v) (G : GoodS S) (e n : Int) : Calls Try.prog 30 #[.pointer (some ⟨g, 0, none⟩), .int .i64 e, .int .i64 n] w fun x w' => x = .returned (.bool (ackB S e n)) ∧ RnP B w' g (ackV S e n) ∧ WR B w w' := by
  have HN := Lib.hid (fun (w1 : World) (hb : Below w.heap.size w w1) => nextR_any (h.below hb) G)
  have c0 : w.cell? ⟨g, 0, none⟩ = some (.int .i64 S.e) := h.cell.read 0
  have c1 : w.cell? ⟨g, 1, none⟩ = some (.int .i64 S.a) := h.cell.read 1
  have HE := Lib.hid h
  have g3 := G.a0; have g4 := G.m; have g7 := G.l
  by_cases h1 : e = S.e
  · subst h1
    by_cases h2 : n ≤ S.a
    · have e1 : ackB S S.e n = false := decide_eq_false (fun h => by have := h.2.1; omega)
      rw [ackR_not e1, e1]
      clear e1 HN h G
      go_enter Try.func30, Try.ntmps30
      go_wp2_with fail
      go_ret
      exact ⟨rfl, ⟨_, HE.out⟩, WB.of (Below.refl _ _) HE.out.le⟩
    · by_cases h3 : nextV S ≤ n
      · have e1 : ackB S S.e n = false := decide_eq_false (fun h => by have := h.2.2; omega)
        rw [ackR_not e1, e1]
        clear e1 h G g3 g4 g7
        generalize nextV S = nv at HN h3
        go_enter Try.func30, Try.ntmps30
        go_wp2_with (go_at_call 38; (with_reducible refine (HN.out w (Below.refl _ w)).mono ?_); rintro e w1 ⟨rfl, b1⟩; have B1 := Lib.hid b1; clear b1)
        go_ret
        exact ⟨rfl, ⟨_, HE.out.below B1.out⟩, WB.of B1.out HE.out.le⟩
      · have e1 : ackB S S.e n = true := decide_eq_true ⟨rfl, by omega, by omega⟩
        have hnx : n < nextV S := by omega
        have hnx2 := hnx
        unfold nextV at hnx2
        obtain ⟨j, hj⟩ : ∃ j : Nat, n - S.a = j := ⟨(n - S.a).toNat, by omega⟩
        have hj0 : 0 < j := by omega
        have hjl : j ≤ S.L.length := by omega
        have e2 : ackV S S.e n = { S with L := S.L.drop j, a := n, s := max S.s n, k := 0 } := by unfold ackV; rw [if_pos e1, hj, Int.toNat_natCast]
        have hna : S.a < n := by omega
        have hn1 : n ≤ 1099511627776 := by omega
        rw [e2, e1]
        obtain ⟨A, c, A9, c9, hv, hlc, ⟨bA, oA, hA⟩, hsl, hrow, hob⟩ := h.row.cut j hj0 hjl
        have HRC := Lib.hid (fun (w1 : World) (hb : Below w.heap.size w w1) => hrow.below hb)
        have HOB := Lib.hid hob
        subst hv hA
        rw [← hj] at hsl
        have hjn : (n - S.a) ≤ (S.L.length : Int) := by omega
        have hj1 : 0 < n - S.a := by omega
        have hjc : (n - S.a) ≤ (c : Int) := by omega
        have hDl : (S.L.drop j).length = S.L.length - j := List.length_drop
        clear e1 e2 h2 h3 hnx2 h G hrow hob
        generalize nextV S = nv at HN hnx
        go_enter Try.func30, Try.ntmps30
        go_upto_region 3 with (go_at_call 38; (with_reducible refine (HN.out w (Below.refl _ w)).mono ?_); rintro e w1 ⟨rfl, b1⟩; have B1 := Lib.hid b1; clear b1)
        clear c0 c1 HN
        have H1 := Lib.hid (HE.out.below B1.out)
        have W1 : Hid (WR B w w1) := Lib.hid (WB.of B1.out HE.out.le)
        have Hslc := Lib.hid hsl
        have HBN := Lib.hid (show 0 < n - S.a ∧ n - S.a ≤ 64 from ⟨hj1, by omega⟩)
        clear hsl hjc hlc hDl
        refine wp_frame ?_
        intro a9 ha9
        have hN9 : a9.tmps.size = 57 := by rw [ha9]; rfl
        have e0 : a9.eval (.tmp 0) = .pointer (some ⟨g, 0, none⟩) := by rw [ha9]; rfl
        have e2 : a9.eval (.tmp 2) = .int .i64 n := by rw [ha9]; rfl
        have HA9 := Lib.hid ha9
        clear ha9
        refine region_fullZ 57 [] [(14, 4), (14, 9)] [] (fun k => k == 4 || k == 9 || k == 14) (fun w7 => TurnS w1 w7 (fun k => k = g)) ?hR ?r0 [pdOne 0 (Is (.pointer (some ⟨g, 0, none⟩))), pdOne 1 (Is (.pointer (some ⟨g, 0, none⟩))), pdOne 2 (Is (.pointer (some ⟨g, 0, none⟩))), pdOne 3 (Is (.pointer (some ⟨g, 3, none⟩))), pdOne 4 (Is (.slice (some ⟨bA, oA, none⟩) S.L.length c)), pdOne 5 (Is (.int .i64 n)), pdOne 6 (Is (.pointer (some ⟨g, 0, none⟩))), pdOne 7 (Is (.pointer (some ⟨g, 0, none⟩))), pdOne 8 (Is (.pointer (some ⟨g, 1, none⟩))), pdOne 9 (Is (.int .i64 S.a)), pdOne 10 (Is (.int .i64 (n - S.a))), pdOne 11 (Is (.slice A9 (S.L.length - j) c9)), pdOne 12 (Is (.pointer (some ⟨g, 0, none⟩))), pdOne 13 (Is (.pointer (some ⟨g, 3, none⟩))), pdOne 14 (FinA g S (.slice A9 (S.L.length - j) c9))] (fun k w7 => Whole w7 g 75 (rnC S (.slice (some ⟨bA, oA, none⟩) S.L.length c))) (by kernel_rfl) hN9 (by kernel_rfl) (by kernel_rfl) (by kernel_rfl) (by kernel_rfl) (by kernel_rfl) ?keep ?hO ?h0 ?tell
        case hR => exact fun w7 w8 hb h => h.later hb
        case r0 => exact TurnS.refl _ _
        case keep => exact ⟨keep_one (keeps_is _), keep_one (keeps_is _), keep_one (keeps_is _), keep_one (keeps_is _), keep_one (keeps_is _), keep_one (keeps_is _), keep_one (keeps_is _), keep_one (keeps_is _), keep_one (keeps_is _), keep_one (keeps_is _), keep_one (keeps_is _), keep_one (keeps_is _), keep_one (keeps_is _), keep_one (keeps_is _), keep_one (keeps_finA _ _ _), trivial⟩
        case hO => exact fun k w7 w8 hb h => h.below hb h.inside
        case h0 => exact fun k _ => H1.out.cell
        case tell =>
          intro fin hfin
          apply And.intro
          case' left => (simp only [TellZ]; refine ⟨?_, ?_, ?_, ?_, ?_, ?_, ?_, ?_, ?_, ?_, ?_, ?_, ?_, ?_, ?_, trivial⟩)
          · intro v2 w7 hr hd
            refine ⟨(fun j b h => nomatch h), ?_⟩
            refine yields_run (u := .pointer (some ⟨g, 0, none⟩)) (w' := w7) ?_ (Below.refl _ _) rfl
            unfold execOp
            (try simp only [List.map_toArray, List.map_cons, List.map_nil, ev_ne, ev_eq, ev_const, put_size, hN9, ne_eq, Nat.reduceEqDiff, not_false_eq_true, Nat.reduceLT, e0, e2])
            (try simp [go_sem])
          · intro v2 w7 hr hd
            refine ⟨(fun j b h => nomatch h), ?_⟩
            refine yields_run (u := .pointer (some ⟨g, 0, none⟩)) (w' := w7) ?_ (Below.refl _ _) rfl
            unfold execOp
            (try simp only [List.map_toArray, List.map_cons, List.map_nil, ev_ne, ev_eq, ev_const, put_size, hN9, ne_eq, Nat.reduceEqDiff, not_false_eq_true, Nat.reduceLT, e0, e2])
            (try simp [go_sem])
          · intro v2 w7 hr hd
            have h1 : v2 1 = .pointer (some ⟨g, 0, none⟩) := hd 1 (by kernel_rfl)
            refine ⟨(fun j b h => nomatch h), ?_⟩
            exact yields_nilCheck rfl (by simp only [List.map_toArray, List.map_cons, List.map_nil, ev_ne, ev_eq, ev_const, put_size, hN9, ne_eq, Nat.reduceEqDiff, not_false_eq_true, Nat.reduceLT, e0, e2, h1])
          · intro v2 w7 hr hd
            have h2 : v2 2 = .pointer (some ⟨g, 0, none⟩) := hd 2 (by kernel_rfl)
            refine ⟨(fun j b h => nomatch h), ?_⟩
            refine yields_run (u := .pointer (some ⟨g, 3, none⟩)) (w' := w7) ?_ (Below.refl _ _) rfl
            unfold execOp
            (try simp only [List.map_toArray, List.map_cons, List.map_nil, ev_ne, ev_eq, ev_const, put_size, hN9, ne_eq, Nat.reduceEqDiff, not_false_eq_true, Nat.reduceLT, e0, e2, h2])
            (try simp [go_sem])
          · intro v2 w7 hr ho hd
            have h3 : v2 3 = .pointer (some ⟨g, 3, none⟩) := hd 3 (by kernel_rfl)
            refine ⟨(fun j b h => nomatch h), ?_⟩
            have hc : w7.cell? ⟨g, 3, none⟩ = some (.slice (some ⟨bA, oA, none⟩) S.L.length c) := ho.read 3
            have hf : w7.frozen? ⟨g, 3, none⟩ = false := ho.soft 3
            refine .inl (.inl ⟨.slice (some ⟨bA, oA, none⟩) S.L.length c, w7, ?_, hr, fun _ _ _ _ hu => hu, fun _ _ _ _ hu => hu, rfl⟩)
            unfold execOp
            (try simp only [List.map_toArray, List.map_cons, List.map_nil, ev_ne, ev_eq, ev_const, put_size, hN9, ne_eq, Nat.reduceEqDiff, not_false_eq_true, Nat.reduceLT, e0, e2, h3])
            (try simp [go_sem, hc, hf])
          · intro v2 w7 hr hd
            refine ⟨(fun j b h => nomatch h), ?_⟩
            refine yields_run (u := .int .i64 n) (w' := w7) ?_ (Below.refl _ _) rfl
            unfold execOp
            (try simp only [List.map_toArray, List.map_cons, List.map_nil, ev_ne, ev_eq, ev_const, put_size, hN9, ne_eq, Nat.reduceEqDiff, not_false_eq_true, Nat.reduceLT, e0, e2])
            (try simp [go_sem])
          · intro v2 w7 hr hd
            refine ⟨(fun j b h => nomatch h), ?_⟩
            refine yields_run (u := .pointer (some ⟨g, 0, none⟩)) (w' := w7) ?_ (Below.refl _ _) rfl
            unfold execOp
            (try simp only [List.map_toArray, List.map_cons, List.map_nil, ev_ne, ev_eq, ev_const, put_size, hN9, ne_eq, Nat.reduceEqDiff, not_false_eq_true, Nat.reduceLT, e0, e2])
            (try simp [go_sem])
          · intro v2 w7 hr hd
            have h6 : v2 6 = .pointer (some ⟨g, 0, none⟩) := hd 6 (by kernel_rfl)
            refine ⟨(fun j b h => nomatch h), ?_⟩
            exact yields_nilCheck rfl (by simp only [List.map_toArray, List.map_cons, List.map_nil, ev_ne, ev_eq, ev_const, put_size, hN9, ne_eq, Nat.reduceEqDiff, not_false_eq_true, Nat.reduceLT, e0, e2, h6])
          · intro v2 w7 hr hd
            have h7 : v2 7 = .pointer (some ⟨g, 0, none⟩) := hd 7 (by kernel_rfl)
            refine ⟨(fun j b h => nomatch h), ?_⟩
            refine yields_run (u := .pointer (some ⟨g, 1, none⟩)) (w' := w7) ?_ (Below.refl _ _) rfl
            unfold execOp
            (try simp only [List.map_toArray, List.map_cons, List.map_nil, ev_ne, ev_eq, ev_const, put_size, hN9, ne_eq, Nat.reduceEqDiff, not_false_eq_true, Nat.reduceLT, e0, e2, h7])
            (try simp [go_sem])
          · intro v2 w7 hr ho hd
            have h8 : v2 8 = .pointer (some ⟨g, 1, none⟩) := hd 8 (by kernel_rfl)
            refine ⟨(fun j b h => nomatch h), ?_⟩
            have hc : w7.cell? ⟨g, 1, none⟩ = some (.int .i64 S.a) := ho.read 1
            have hf : w7.frozen? ⟨g, 1, none⟩ = false := ho.soft 1
            refine .inl (.inl ⟨.int .i64 S.a, w7, ?_, hr, fun _ _ _ _ hu => hu, fun _ _ _ _ hu => hu, rfl⟩)
            unfold execOp
            (try simp only [List.map_toArray, List.map_cons, List.map_nil, ev_ne, ev_eq, ev_const, put_size, hN9, ne_eq, Nat.reduceEqDiff, not_false_eq_true, Nat.reduceLT, e0, e2, h8])
            (try simp [go_sem, hc, hf])
          · intro v2 w7 hr hd
            have h5 : v2 5 = .int .i64 n := hd 5 (by kernel_rfl)
            have h9 : v2 9 = .int .i64 S.a := hd 9 (by kernel_rfl)
            refine ⟨(fun j b h => nomatch h), ?_⟩
            have hw : IntKind.i64.wrap (n - S.a) = n - S.a := by have := HBN.out; rw [IntKind.wrap_i64]; omega
            refine yields_run (u := .int .i64 (n - S.a)) (w' := w7) ?_ (Below.refl _ _) rfl
            unfold execOp
            (try simp only [List.map_toArray, List.map_cons, List.map_nil, ev_ne, ev_eq, ev_const, put_size, hN9, ne_eq, Nat.reduceEqDiff, not_false_eq_true, Nat.reduceLT, e0, e2, h5, h9])
            (try simp [go_sem, hw])
          · intro v2 w7 hr hd
            have h4 : v2 4 = .slice (some ⟨bA, oA, none⟩) S.L.length c := hd 4 (by kernel_rfl)
            have h10 : v2 10 = .int .i64 (n - S.a) := hd 10 (by kernel_rfl)
            refine ⟨(fun j b h => nomatch h), ?_⟩
            exact yields_slice (v := .slice (some ⟨bA, oA, none⟩) S.L.length c) rfl (by simp only [List.map_toArray, List.map_cons, List.map_nil, ev_ne, ev_eq, ev_const, put_size, hN9, ne_eq, Nat.reduceEqDiff, not_false_eq_true, Nat.reduceLT, e0, e2, h4, h10]) (by simp only [List.map_toArray, List.map_cons, List.map_nil, ev_ne, ev_eq, ev_const, put_size, hN9, ne_eq, Nat.reduceEqDiff, not_false_eq_true, Nat.reduceLT, e0, e2, h4, h10, Option.map_some, Option.map_none]; exact Hslc.out w7) rfl
          · intro v2 w7 hr hd
            have h0 : v2 0 = .pointer (some ⟨g, 0, none⟩) := hd 0 (by kernel_rfl)
            refine ⟨(fun j b h => nomatch h), ?_⟩
            exact yields_nilCheck rfl (by simp only [List.map_toArray, List.map_cons, List.map_nil, ev_ne, ev_eq, ev_const, put_size, hN9, ne_eq, Nat.reduceEqDiff, not_false_eq_true, Nat.reduceLT, e0, e2, h0])
          · intro v2 w7 hr hd
            have h12 : v2 12 = .pointer (some ⟨g, 0, none⟩) := hd 12 (by kernel_rfl)
            refine ⟨(fun j b h => nomatch h), ?_⟩
            refine yields_run (u := .pointer (some ⟨g, 3, none⟩)) (w' := w7) ?_ (Below.refl _ _) rfl
            unfold execOp
            (try simp only [List.map_toArray, List.map_cons, List.map_nil, ev_ne, ev_eq, ev_const, put_size, hN9, ne_eq, Nat.reduceEqDiff, not_false_eq_true, Nat.reduceLT, e0, e2, h12])
            (try simp [go_sem])
          · intro v2 w7 hr ho hd
            have h11 : v2 11 = .slice A9 (S.L.length - j) c9 := hd 11 (by kernel_rfl)
            have h13 : v2 13 = .pointer (some ⟨g, 3, none⟩) := hd 13 (by kernel_rfl)
            refine ⟨(fun j b h => nomatch h), ?_⟩
            have hc : w7.cell? ⟨g, 3, none⟩ = some (.slice (some ⟨bA, oA, none⟩) S.L.length c) := ho.read 3
            have hf : w7.frozen? ⟨g, 3, none⟩ = false := ho.soft 3
            have hg : w7.grownBy (w7.setCell ⟨g, 3, none⟩ (.slice A9 (S.L.length - j) c9)) (some g) := only_store (only_of_below (Below.refl _ w7) (some g)) _
            refine .inr ⟨w7.setCell ⟨g, 3, none⟩ (.slice A9 (S.L.length - j) c9), ?_, hr.grown hg (fun q e => .inl (Option.some.inj e).symm), ?_, ?_, ho.store 3 _⟩
            · unfold execOp
              (try simp only [List.map_toArray, List.map_cons, List.map_nil, ev_ne, ev_eq, ev_const, put_size, hN9, ne_eq, Nat.reduceEqDiff, not_false_eq_true, Nat.reduceLT, e0, e2, h11, h13])
              (try simp [go_sem, hc, hf])
            · intro k2 v' hk2 hc2 hu
              exact match k2, hk2, hc2, hu with
                | 0, _, _, hu => hu
                | 1, _, _, hu => hu
                | 2, _, _, hu => hu
                | 3, _, _, hu => hu
                | 4, _, _, hu => hu
                | 5, _, _, hu => hu
                | 6, _, _, hu => hu
                | 7, _, _, hu => hu
                | 8, _, _, hu => hu
                | 9, _, _, hu => hu
                | 10, _, _, hu => hu
                | 11, _, _, hu => hu
                | 12, _, _, hu => hu
                | 13, _, _, hu => hu
                | 14, hk2, _, _ => absurd rfl hk2
                | _ + 15, _, _, _ => trivial
            · intro k2 hk2 hn hc2 hu
              exact match k2, hk2, hn, hc2 with
                | 0, _, hn, hc2 => absurd hn (by decide)
                | 1, _, hn, hc2 => absurd hn (by decide)
                | 2, _, hn, hc2 => absurd hn (by decide)
                | 3, _, hn, hc2 => absurd hn (by decide)
                | 4, _, hn, hc2 => absurd hc2 (by decide)
                | 5, _, hn, hc2 => absurd hn (by decide)
                | 6, _, hn, hc2 => absurd hn (by decide)
                | 7, _, hn, hc2 => absurd hn (by decide)
                | 8, _, hn, hc2 => absurd hn (by decide)
                | 9, _, hn, hc2 => absurd hc2 (by decide)
                | 10, _, hn, hc2 => absurd hn (by decide)
                | 11, _, hn, hc2 => absurd hn (by decide)
                | 12, _, hn, hc2 => absurd hn (by decide)
                | 13, _, hn, hc2 => absurd hn (by decide)
                | 14, hk2, _, _ => absurd rfl hk2
                | _ + 15, _, hn, _ => absurd hn (by simp)
          · intro v2 w6 hr hv
            have hX : FinA g S (.slice A9 (S.L.length - j) c9) (v2 14) w6 := hv 14 (by decide) (by decide)
            have H6 : Hid (RnE B w6 g { S with L := S.L.drop j } (.slice A9 (S.L.length - j) c9)) := Lib.hid ⟨hX, (HRC.out w1 B1.out).same fun k e => by
              obtain ⟨-, cur, hc⟩ := (HRC.out w1 B1.out).block e
              exact hr.block k (Array.getElem?_eq_some_iff.1 hc).1 (obj_ne hc H1.out.cell (ty_ne (by decide))), H1.out.low⟩
            have W6 := Lib.hid (W1.out.trans (wr_turn H1.out.cell H1.out.low hr))
            have hf := hfin v2
            rw [HA9.out] at hf
            simp [lexPut, Act.put] at hf
            rw [hf]
            clear hf HA9 hN9 e0 e2 hfin
            clear hX hv hr H1 W1 HRC Hslc HBN
            have f1 : w6.frozen? ⟨g, 1, none⟩ = false := H6.out.cell.soft 1
            have k1 : w6.cell? ⟨g, 1, none⟩ = some (.int .i64 S.a) := H6.out.cell.read 1
            go_upto_region 5 with fail
            change Code.wp _ _ _ _ (w6.setCell ⟨g, 1, none⟩ (.int .i64 n))
            have hp := H6.out.put 1 (.int .i64 n) (V := { S with L := S.L.drop j, a := n }) rfl rfl
            have H7 := Lib.hid hp.1
            have W7 := Lib.hid (W6.out.trans hp.2)
            clear hp f1 k1 H6 W6
            generalize w6.setCell ⟨g, 1, none⟩ (.int .i64 n) = w7 at H7 W7 ⊢
            have f2 : w7.frozen? ⟨g, 2, none⟩ = false := H7.out.cell.soft 2
            have k2 : w7.cell? ⟨g, 2, none⟩ = some (.int .i64 S.s) := H7.out.cell.read 2
            go_upto_region 6 with fail
            rw [show (if S.s < n then n else S.s) = max S.s n by split <;> omega]
            change Code.wp _ _ _ _ (w7.setCell ⟨g, 2, none⟩ (.int .i64 (max S.s n)))
            have hp := H7.out.put 2 (.int .i64 (max S.s n)) (V := { S with L := S.L.drop j, a := n, s := max S.s n }) rfl rfl
            have H8 := Lib.hid hp.1
            have W8 := Lib.hid (W7.out.trans hp.2)
            clear hp f2 k2 H7 W7
            generalize w7.setCell ⟨g, 2, none⟩ (.int .i64 (max S.s n)) = w8 at H8 W8 ⊢
            have f4 : w8.frozen? ⟨g, 4, none⟩ = false := H8.out.cell.soft 4
            have k4 : w8.cell? ⟨g, 4, none⟩ = some (.int .i64 S.k) := H8.out.cell.read 4
            go_wp2_with fail
            go_ret
            have hp := H8.out.put 4 (.int .i64 0) (V := { S with L := S.L.drop j, a := n, s := max S.s n, k := 0 }) rfl rfl
            exact ⟨rfl, ⟨_, hp.1⟩, W8.out.trans hp.2⟩
  · have e1 : ackB S e n = false := decide_eq_false (fun h => h1 h.1)
    have h1b : (e != S.e) = true := by simpa using h1
    rw [ackR_not e1, e1]
    clear e1 HN h G g3 g4 g7 h1
    go_enter Try.func30, Try.ntmps30
    go_wp2_with fail
    go_ret
    exact ⟨rfl, ⟨_, HE.out⟩, WB.of (Below.refl _ _) HE.out.le⟩
end
end Go.Proofs.Ytbomlapmoiamgaa.hop
