/-
  The document's sender: Put.
-/
import Derived.Test.YtbomlapmoiamgaaSr1
set_option linter.unusedSimpArgs false
set_option linter.unusedVariables false
namespace Go.Proofs.Ytbomlapmoiamgaa.region
open Go.RowKit
theorem wpList_append_any {P : Program} {w : World} {ops : Array Oper} {rest : List Oper} {o : Oper} {a : Act} {Q : Exit → Act → World → Prop} (hgd : o.guard = none) (s x : Operand) (t : TypeId)
    (ho : o.op = .call { callee := .builtin .append, args := #[s, x], argTypes := #[t, t] }) {v u v' : Value} {w' : World} (hs : a.eval s = v) (hx : a.eval x = u) (hr : (Builtin.append_ #[t, t] o.type #[v, u]).run P w = .ok v' w') (h : wpList P ops Q rest (a.put o.dst v') w') : wpList P ops Q (o :: rest) a w := by
  refine wpList_plain hgd fun K hK => ?_
  unfold Oper.wp execOp
  simp only [ho, resolve, invoke, builtin, Sem.run_bind, Sem.run_pure, Result.andThen_ok, List.map_toArray, List.map_cons, List.map_nil, hs, hx]
  rw [hr]
  exact hK _ _ h
end Go.Proofs.Ytbomlapmoiamgaa.region
namespace Go.Proofs.Ytbomlapmoiamgaa.hop
open Go.ChangeShapes Go.WideShapes Go.ChangeAt Go.RowKit
open Go.Proofs.Ytbomlapmoiamgaa.opened Go.Proofs.Ytbomlapmoiamgaa.block Go.Proofs.Ytbomlapmoiamgaa.words Go.Proofs.Ytbomlapmoiamgaa.region
open Go.Proofs.Ytbomlapmoiamgaa.wan (WB WObj not_wobj)
section
variable {w w' : World} {B g : Nat} {S : Sn} {v : Value}
theorem wr_cell {cs : Array Value} (hc : Whole w g 75 cs) (hB : B ≤ g) (i : Nat) (u : Value) : WR B w (w.setCell ⟨g, i, none⟩ u) := by
  have hg : w.grownBy (w.setCell ⟨g, i, none⟩ u) (some g) := only_store (only_of_below (Below.refl _ w) (some g)) _
  exact ⟨(Below.refl B w).grown hg (Nat.le_trans hB (Nat.le_of_lt hc.inside)) (fun k e => by cases e; exact hB), fun k o ho hn => by
    have hk := (Array.getElem?_eq_some_iff.1 ho).1
    rw [hg.block k hk fun e => ?_]
    · exact ho
    · cases e
      exact hn ⟨_, _, .inl (Option.some.inj (ho.symm.trans hc))⟩⟩
theorem RnE.push (h : RnE B w g S v) (hl : S.L.length ≤ 64) (x : It) (ad : Addr) (c1 : Nat) (hx : ∀ j u, (cI x)[j]? = some u → w.cell? (ad.add j) = some u) (ty : TypeId) :
    ∃ v' w', (Builtin.append_ #[67, 67] ty #[v, .slice (some ad) 1 c1]).run Try.prog w = .ok v' w' ∧ (∃ A c, v' = .slice A (S.L.length + 1) c) ∧ w'.cell? ⟨g, 3, none⟩ = some v ∧ w'.frozen? ⟨g, 3, none⟩ = false ∧ RnE B (w'.setCell ⟨g, 3, none⟩ v') g { S with L := S.L ++ [x] } v' ∧ WR B w (w'.setCell ⟨g, 3, none⟩ v') := by
  obtain ⟨v', w2, hr, ho, hg⟩ := h.row.push h.le hl x ad c1 hx ty
  have hc6 : Whole w2 g _ _ := h.cell.grown hg fun e => h.apart e.symm
  have hst := hc6.store 3 v'
  have hne : v'.ownBlock ≠ some g := fun e => by
    obtain ⟨-, cur, hc⟩ := ho.block e
    exact obj_ne hc hc6 (ty_ne (by decide)) rfl
  have hg2 : w2.grownBy (w2.setCell ⟨g, 3, none⟩ v') (some g) := only_store (only_of_below (Below.refl _ w2) (some g)) _
  obtain ⟨A, c, hs⟩ := ho.shape
  refine ⟨v', w2, hr, ⟨A, c, by rw [hs]; simp⟩, hc6.read 3, hc6.soft 3, ⟨hst, ho.past hg2 fun k e => by cases e; exact hne, h.low⟩, (h.wr hg fun k e => .inr e).trans (wr_cell hc6 h.low 3 v')⟩
set_option maxRecDepth 100000 in
set_option maxHeartbeats 4000000 in
theorem putR_any (h : RnE B w g S v) (G : GoodS S) (t : Bs) : Calls Try.prog 28 #[.pointer (some ⟨g, 0, none⟩), sV t] w fun e w' => e = .returned (.tuple #[.int .i64 (putN S t), .int .i64 (putE S t)]) ∧ RnP B w' g (putV S t) ∧ WR B w w' := by
  obtain ⟨A, c, hv⟩ := h.row.shape
  subst hv
  have c3 : w.cell? ⟨g, 3, none⟩ = some (.slice A S.L.length c) := h.cell.read 3
  have f3 : w.frozen? ⟨g, 3, none⟩ = false := h.cell.soft 3
  have H := Lib.hid h
  have HG := Lib.hid G
  have HN := Lib.hid (fun (w1 : World) (b : Below w.heap.size w w1) => nextR_any (h.below b) G)
  have hl := G.l
  clear h G
  by_cases h6 : 6000 < t.length
  · have e1 : putE S t = 7 := by unfold putE; rw [if_pos h6]
    have n1 : putN S t = 0 := by unfold putN; rw [if_neg (by rw [e1]; decide)]
    have v1 : putV S t = S := by unfold putV; rw [if_neg (by rw [e1]; decide)]
    rw [e1, n1, v1]
    have h6i : (6000 : Int) < (t.length : Int) := by omega
    clear e1 n1 v1 HN
    go_enter Try.func28, Try.ntmps28
    go_wp2_with fail
    go_ret2
    exact ⟨rfl, ⟨_, H.out⟩, WB.of (Below.refl _ _) H.out.le⟩
  · have h6i : ¬ (6000 : Int) < (t.length : Int) := by omega
    by_cases h64 : 64 ≤ S.L.length
    · have e1 : putE S t = 2 := by unfold putE; rw [if_neg h6, if_pos (.inl h64)]
      have n1 : putN S t = 0 := by unfold putN; rw [if_neg (by rw [e1]; decide)]
      have v1 : putV S t = S := by unfold putV; rw [if_neg (by rw [e1]; decide)]
      rw [e1, n1, v1]
      have h64i : (64 : Int) ≤ (S.L.length : Int) := by omega
      clear e1 n1 v1 HN
      go_enter Try.func28, Try.ntmps28
      go_wp2_with fail
      go_ret2
      exact ⟨rfl, ⟨_, H.out⟩, WB.of (Below.refl _ _) H.out.le⟩
    · have h64i : (S.L.length : Int) < 64 := by omega
      by_cases hm : 1099511627776 < nextV S
      · have e1 : putE S t = 2 := by unfold putE; rw [if_neg h6, if_pos (.inr hm)]
        have n1 : putN S t = 0 := by unfold putN; rw [if_neg (by rw [e1]; decide)]
        have v1 : putV S t = S := by unfold putV; rw [if_neg (by rw [e1]; decide)]
        rw [e1, n1, v1]
        generalize nextV S = nv at HN hm
        clear e1 n1 v1
        go_enter Try.func28, Try.ntmps28
        go_wp2_with (go_at_call 38; (with_reducible refine (HN.out w (Below.refl _ _)).mono ?_); rintro e w1 ⟨rfl, b1⟩; have B1 := Lib.hid b1; clear b1)
        go_ret2
        exact ⟨rfl, ⟨_, H.out.below B1.out⟩, WB.of B1.out H.out.le⟩
      · have e1 : putE S t = 0 := by unfold putE; rw [if_neg h6, if_neg (by omega)]
        have n1 : putN S t = nextV S := by unfold putN; rw [if_pos e1]
        have v1 : putV S t = { S with L := S.L ++ [⟨nextV S, t⟩] } := by unfold putV; rw [if_pos e1]
        rw [e1, n1, v1]
        have hm2 : nextV S ≤ 1099511627776 := by omega
        generalize nextV S = nv at HN hm2 ⊢
        clear e1 n1 v1 hm
        go_enter Try.func28, Try.ntmps28
        go_upto_region 6 with (first
          | (go_at_call 38; (with_reducible refine (HN.out w1 B1.out).mono ?_); rintro e w2 ⟨rfl, b2⟩; have B2 := Lib.hid (then_below B1.out b2); clear b2)
          | (go_at_call 38; (with_reducible refine (HN.out w (Below.refl _ _)).mono ?_); rintro e w1 ⟨rfl, b1⟩; have B1 := Lib.hid b1; clear b1))
        have H2 := Lib.hid (H.out.below B2.out)
        have HBX := fresh1 w2 (.cells (cI ⟨nv, t⟩).toArray 101)
        have H3 := Lib.hid (H2.out.below HBX)
        have W3 : Hid (WR B w (w2.alloc (.cells (cI ⟨nv, t⟩).toArray 101))) := Lib.hid (WB.of (then_below B2.out HBX) H.out.le)
        obtain ⟨v9, w9, hrun, ⟨A9, c9, hv9⟩, hcell, hfroz, hE, hW⟩ := H3.out.push hl ⟨nv, t⟩ ⟨w2.heap.size, 0, none⟩ 1 (whole_cells (Whole.fresh w2 101 _)) 67
        subst hv9
        have k3 : w2.cell? ⟨g, 3, none⟩ = some (.slice A S.L.length c) := H2.out.cell.read 3
        have kf : w2.frozen? ⟨g, 3, none⟩ = false := H2.out.cell.soft 3
        have HE9 := Lib.hid hE
        have HW9 := Lib.hid hW
        have HR9 := Lib.hid hrun
        clear c3 f3 HN H2 H3 HBX hE hW hrun
        go_wp2_with (at_builtin; refine wpList_append_any rfl _ _ 67 rfl (by first | (rw [ev_ne (by decide)]; rfl) | (rw [ev_ne (by decide), ev_ne (by decide)]; rfl) | rfl | simp [Act.eval]) (by first | rfl | exact ev_eq (by show 33 < 38; decide) | simp [Act.eval]) HR9.out ?_)
        go_ret2
        exact ⟨rfl, ⟨_, HE9.out⟩, W3.out.trans HW9.out⟩
end
end Go.Proofs.Ytbomlapmoiamgaa.hop
