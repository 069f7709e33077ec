/-
  A row that may begin behind its block's first cell (a row that was cut), appended to; the document's sender in the world.
-/
import Derived.Test.YtbomlapmoiamgaaHp3
import Derived.Test.YtbomlapmoiamgaaFb
import Derived.ArgAppend
import Derived.Deep.DeepAppendRoom
import Derived.Test.YtbomlapmoiamgaaWd1
set_option linter.unusedSimpArgs false
set_option linter.unusedVariables false
namespace Go.Proofs.Ytbomlapmoiamgaa.hop
open Go.ChangeShapes Go.WideShapes Go.ChangeAt Go.RowKit
open Go.Proofs.Ytbomlapmoiamgaa.opened Go.Proofs.Ytbomlapmoiamgaa.block Go.Proofs.Ytbomlapmoiamgaa.words Go.Proofs.Ytbomlapmoiamgaa.region
abbrev TI : TypeId := 101
theorem infoIR : ∃ i, Try.prog.info? 101 = some i ∧ i.zero = some (.agg #[.int .i64 0, sV []]) ∧ i.size = 2 ∧ i.bytes = 24 := by
  have h : (Try.prog.info? 101).map (fun i => (i.zero, i.size, i.bytes)) = some (some (.agg #[.int .i64 0, sV []]), 2, 24) := by kernel_rfl
  rw [Option.map_eq_some_iff] at h
  obtain ⟨i, hi, he⟩ := h
  simp only [Prod.mk.injEq] at he
  exact ⟨i, hi, he.1, he.2.1, he.2.2⟩
/-- A row of items: nothing at all, or behind D in an own block. -/
def RowO (w : World) (B : Nat) (v : Value) (L : List It) : Prop :=
  (L = [] ∧ ∃ A, (A = none ∨ ∃ b o, A = some ⟨b, o, none⟩ ∧ B ≤ b ∧ ∃ cur, w.heap[b]? = some (.cells cur 101 (0, 0))) ∧ v = .slice A 0 0) ∨
  ∃ (b : Nat) (D : List It) (c : Nat), v = .slice (some ⟨b, D.length * 2, none⟩) L.length c ∧ OwnG 101 2 cI w B (.slice (some ⟨b, 0, none⟩) (D ++ L).length (D.length + c)) (D ++ L)
theorem rowO_nil (w : World) (B : Nat) : RowO w B (.slice none 0 0) [] := .inl ⟨rfl, none, .inl rfl, rfl⟩
section
variable {w w' : World} {B : Nat} {v : Value} {L : List It}
theorem RowO.shape (h : RowO w B v L) : ∃ A c, v = .slice A L.length c := by
  rcases h with ⟨rfl, A, -, rfl⟩ | ⟨b, D, c, rfl, -⟩
  · exact ⟨A, 0, rfl⟩
  · exact ⟨_, c, rfl⟩
theorem RowO.block (h : RowO w B v L) {k : Nat} (e : v.ownBlock = some k) : B ≤ k ∧ ∃ cur, w.heap[k]? = some (.cells cur 101 (0, 0)) := by
  rcases h with ⟨rfl, A, hA, rfl⟩ | ⟨b, D, c, rfl, ho⟩
  · rcases hA with rfl | ⟨b, o, rfl, hb, hc⟩
    · simp [Value.ownBlock] at e
    · have : b = k := by simpa [Value.ownBlock] using e
      subst this
      exact ⟨hb, hc⟩
  · have : b = k := by simpa [Value.ownBlock] using e
    subst this
    exact ⟨OwnG.above ho rfl, OwnG.shapeT ho rfl⟩
/-- It looks at its block alone. -/
theorem RowO.same (h : RowO w B v L) (hb : ∀ k, v.ownBlock = some k → w'.heap[k]? = w.heap[k]?) : RowO w' B v L := by
  rcases h with ⟨rfl, A, hA, rfl⟩ | ⟨b, D, c, rfl, ho⟩
  · refine .inl ⟨rfl, A, ?_, rfl⟩
    rcases hA with rfl | ⟨b, o, rfl, h1, cur, h2⟩
    · exact .inl rfl
    · exact .inr ⟨b, o, rfl, h1, cur, (hb b rfl).trans h2⟩
  · refine .inr ⟨b, D, c, rfl, ho.1, ?_⟩
    rcases ho.2 with ⟨hv, -⟩ | ⟨b', cap, cur, hv, hb', hh, rest⟩
    · cases hv
    · have e : b = b' := by injection hv with h1; injection h1 with h1; injection h1
      subst e
      exact .inr ⟨b, cap, cur, hv, hb', (hb b rfl).trans hh, rest⟩
theorem RowO.below (h : RowO w B v L) (hb : Below w.heap.size w w') : RowO w' B v L := h.same fun k e => by
  obtain ⟨-, cur, hc⟩ := h.block e
  exact hb.block k (Array.getElem?_eq_some_iff.1 hc).1
theorem RowO.past (h : RowO w B v L) {row : Option Nat} (hg : w.grownBy w' row) (hn : ∀ k, row = some k → v.ownBlock ≠ some k) : RowO w' B v L := h.same fun k e => by
  obtain ⟨-, cur, hc⟩ := h.block e
  exact hg.block k (Array.getElem?_eq_some_iff.1 hc).1 fun e2 => hn k e2.symm e
/-- Its cells. -/
theorem RowO.cells (h : RowO w B v L) {k : Nat} {x : It} (hx : L[k]? = some x) : ∃ b o c, v = .slice (some ⟨b, o, none⟩) L.length c ∧ w.cell? ⟨b, o + k * 2, none⟩ = some (.int .i64 x.n) ∧ w.cell? ⟨b, o + k * 2 + 1, none⟩ = some (sV x.s) ∧ w.frozen? ⟨b, o + k * 2, none⟩ = false := by
  rcases h with ⟨rfl, A, hA, rfl⟩ | ⟨b, D, c, rfl, ho⟩
  · simp at hx
  · refine ⟨b, D.length * 2, c, rfl, ?_⟩
    rcases ho.2 with ⟨hv, -⟩ | ⟨b', cap, cur, hv, hb', hh, hcl, hcm, hcs, hct⟩
    · cases hv
    · have e : b = b' := by injection hv with h1; injection h1 with h1; injection h1
      subst e
      have hd : (D ++ L)[D.length + k]? = some x := by rw [List.getElem?_append_right (by omega)]; simpa using hx
      have hk := (List.getElem?_eq_some_iff.1 hd).1
      have key : ∀ q, q < 2 → w.cell? ⟨b, D.length * 2 + k * 2 + q, none⟩ = (cI x)[q]? ∧ w.frozen? ⟨b, D.length * 2 + k * 2 + q, none⟩ = false := fun q hq => by
        have e := flatG_at cellsI (D ++ L) (D.length + k) x q hd hq
        rw [← hct, List.getElem?_take, if_pos (by omega), Array.getElem?_toList] at e
        rw [← e, show (D.length + k) * 2 + q = D.length * 2 + k * 2 + q by omega]
        exact ⟨by simp [World.cell?, hh], by simp [World.frozen?, hh]⟩
      exact ⟨(key 0 (by omega)).1, (key 1 (by omega)).1, (key 0 (by omega)).2⟩
theorem grown_any (h : w.grownBy w' none) (row : Option Nat) : w.grownBy w' row := ⟨h.os, h.tape, h.output, h.size, fun k hk _ => h.block k hk (by simp)⟩
set_option maxRecDepth 100000 in
theorem RowO.push (h : RowO w B v L) (hB : B ≤ w.heap.size) (hl : L.length ≤ 64) (x : It) (ad : Addr) (c1 : Nat) (hx : ∀ j u, (cI x)[j]? = some u → w.cell? (ad.add j) = some u) (ty : TypeId) :
    ∃ v' w', (Builtin.append_ #[67, 67] ty #[v, .slice (some ad) 1 c1]).run Try.prog w = .ok v' w' ∧ RowO w' B v' (L ++ [x]) ∧ w.grownBy w' v.ownBlock := by
  obtain ⟨i0, hi0, hz0, hz1, hz2⟩ := infoIR
  have fresh : ∀ (v' : Value) (w2 : World) (n : Nat) (xs : List Value), w2.ownsRow w.heap.size 101 2 v' n xs → n = L.length + 1 → xs = (L ++ [x]).flatMap cI → RowO w2 B v' (L ++ [x]) := by
    intro v' w2 n xs ho hn hxs
    subst hn hxs
    obtain ⟨g, cap, rfl⟩ := OwnG.succ ho
    refine .inr ⟨g, [], cap, by simp, ?_⟩
    have hlen : ([] ++ (L ++ [x])).length = L.length + 1 := by simp
    rw [hlen, List.nil_append, List.length_nil, Nat.zero_add]
    have : OwnG 101 2 cI w2 w.heap.size (.slice (some ⟨g, 0, none⟩) (L.length + 1) cap) (L ++ [x]) := by
      unfold OwnG
      simpa using ho
    refine ⟨this.1, ?_⟩
    rcases this.2 with hq | ⟨b, cap, cur, hv, hb2, rest⟩
    · exact .inl hq
    · exact .inr ⟨b, cap, cur, hv, Nat.le_trans hB hb2, rest⟩
  rcases h with ⟨rfl, A, hA, rfl⟩ | ⟨b, D, c, rfl, ho⟩
  · rcases A with _ | a0
    · obtain ⟨v', w2, hr, h1, h2, -, h4⟩ := run_append_own_at (P := Try.prog) w w.heap.size 67 ty 101 i0 _ 2 24 Try.underlying67 hi0 hz0 hz1 hz2 rfl (by decide) (.slice none 0 0) 0 [] (World.ownsRow_nil w _ _ _) ad 1 c1 (cI x) rfl hx (cellsI.one x) (by decide) (by decide) (Nat.le_refl _)
      exact ⟨v', w2, hr, fresh v' w2 _ _ h1 rfl (by simp), h2⟩
    · obtain ⟨v', w2, hr, h1, h2⟩ := run_append_arg_grows (P := Try.prog) w 67 ty 101 i0 _ 2 24 Try.underlying67 hi0 hz0 hz1 hz2 rfl (by decide) a0 0 0 [] rfl (by simp) ad 1 c1 (cI x) rfl hx (by omega) (by decide) (by decide)
      exact ⟨_, w2, hr, fresh _ w2 _ _ h1 rfl (by simp), grown_any h2 _⟩
  · by_cases hroom : L.length + 1 ≤ c
    · have hcap : (D ++ L).length + 1 ≤ D.length + c := by rw [List.length_append]; omega
      obtain ⟨b', cap, cur, hv, hb', hh, hcl, hcm, hcs, hct⟩ := (ho.2).resolve_left (by rintro ⟨hv, -⟩; cases hv)
      have hbb : b = b' ∧ D.length + c = cap := by
        injection hv with h1 h2 h3
        injection h1 with h1
        injection h1 with h1
        exact ⟨h1, h3⟩
      obtain ⟨rfl, rfl⟩ := hbb
      have hce : ∀ (off n : Nat), off + n * i0.size = (D ++ L).length * 2 → (∀ j, j < (cI x).length → (w.cell? ⟨b, off + n * i0.size + j, none⟩).isSome = true) ∧ ∀ j, j < (cI x).length → w.frozen? ⟨b, off + n * i0.size + j, none⟩ = false := fun off n he => by
        refine ⟨fun j hj => ?_, fun j hj => ?_⟩
        · rw [he]
          have hj2 : j < 2 := hj
          have h9 : (D ++ L).length * 2 + j < cur.size := by rw [hcs]; omega
          have e9 : w.cell? ⟨b, (D ++ L).length * 2 + j, none⟩ = cur[(D ++ L).length * 2 + j]? := by simp [World.cell?, hh]
          rw [e9, Array.getElem?_eq_getElem h9]
          rfl
        · simp [World.frozen?, hh]
      have e1 : D.length * 2 + L.length * i0.size = (D ++ L).length * 2 := by rw [hz1, List.length_append]; omega
      have e2 : 0 + (D ++ L).length * i0.size = (D ++ L).length * 2 := by rw [hz1]; omega
      have r1 := run_append_room_cells (P := Try.prog) w 67 ty 101 i0 Try.underlying67 hi0 b (D.length * 2) L.length c ad 1 c1 (cI x) (by rw [hz1]; rfl) hx (cellsI.one x) hroom (hce _ _ e1).1 (hce _ _ e1).2
      have r2 := run_append_room_cells (P := Try.prog) w 67 ty 101 i0 Try.underlying67 hi0 b 0 (D ++ L).length (D.length + c) ad 1 c1 (cI x) (by rw [hz1]; rfl) hx (cellsI.one x) hcap (hce _ _ e2).1 (hce _ _ e2).2
      obtain ⟨w3, hr3, h1, h2⟩ := run_append_own_spare (P := Try.prog) w B 67 ty 101 i0 2 Try.underlying67 hi0 hz1 b (D ++ L).length (D.length + c) _ ho ad 1 c1 (cI x) rfl hx (cellsI.one x) hcap
      rw [r2] at hr3
      injection hr3 with hv3 hw3
      rw [e2] at hw3
      rw [e1, hw3] at r1
      have hlen : (D ++ (L ++ [x])).length = (D ++ L).length + 1 := by simp; omega
      refine ⟨_, w3, r1, .inr ⟨b, D, c, by simp, ?_⟩, h2⟩
      rw [hlen]
      unfold OwnG
      rw [hlen]
      have hfm : (D ++ (L ++ [x])).flatMap cI = (D ++ L).flatMap cI ++ cI x := by simp
      rw [hfm]
      exact h1
    · have hLg := lg_sub cellsI ho D.length L (fun i y hy => by rw [List.getElem?_append_right (by omega)]; simpa using hy)
      obtain ⟨v', w2, hr, h1, h2⟩ := run_append_arg_grows (P := Try.prog) w 67 ty 101 i0 _ 2 24 Try.underlying67 hi0 hz0 hz1 hz2 rfl (by decide) ⟨b, D.length * 2, none⟩ L.length c (L.flatMap cI) (flatG_len cellsI L) (lgg_flat cellsI (by decide) hLg) ad 1 c1 (cI x) rfl hx (by omega) (by unfold maxLen; omega) (by omega)
      exact ⟨v', w2, hr, fresh v' w2 _ _ h1 rfl (by simp), grown_any h2 _⟩
end
open Go.Proofs.Ytbomlapmoiamgaa.wan (WB WObj not_wobj)
abbrev rnC (S : Sn) (v : Value) : Array Value := #[.int .i64 S.e, .int .i64 S.a, .int .i64 S.s, v, .int .i64 S.k, .int .i64 S.wd, .int .i64 S.wt]
abbrev WR (B : Nat) (w w' : World) : Prop := WB 75 101 B w w'
/-- The document's sender at a place. -/
structure RnE (B : Nat) (w : World) (g : Nat) (S : Sn) (v : Value) : Prop where
  cell : Whole w g 75 (rnC S v)
  row : RowO w B v S.L
  low : B ≤ g
def RnP (B : Nat) (w : World) (g : Nat) (S : Sn) : Prop := ∃ v, RnE B w g S v
section
variable {w w' : World} {B g : Nat} {S : Sn} {v : Value}
theorem RnE.below (h : RnE B w g S v) (hb : Below w.heap.size w w') : RnE B w' g S v := ⟨h.cell.below hb h.cell.inside, h.row.below hb, h.low⟩
theorem RnP.below (h : RnP B w g S) (hb : Below w.heap.size w w') : RnP B w' g S := by
  obtain ⟨v, h⟩ := h
  exact ⟨v, h.below hb⟩
theorem RnE.le (h : RnE B w g S v) : B ≤ w.heap.size := Nat.le_trans h.low (Nat.le_of_lt h.cell.inside)
theorem RnE.apart (h : RnE B w g S v) : v.ownBlock ≠ some g := fun e => by
  obtain ⟨-, cur, hc⟩ := h.row.block e
  exact obj_ne hc h.cell (ty_ne (by decide)) rfl
/-- Blocks of the sender's own alone have turned. -/
theorem RnE.wr (h : RnE B w g S v) {row : Option Nat} (hg : w.grownBy w' row) (hr : ∀ k, row = some k → k = g ∨ v.ownBlock = some k) : WR B w w' :=
  ⟨(Below.refl B w).grown hg h.le (fun k e => by
    rcases hr k e with e2 | e2
    · rw [e2]; exact h.low
    · exact (h.row.block e2).1), fun k o ho hn => by
    have hk := (Array.getElem?_eq_some_iff.1 ho).1
    rw [hg.block k hk fun e => ?_]
    · exact ho
    · rcases hr k e.symm with e2 | e2
      · subst e2
        exact hn ⟨_, _, .inl (Option.some.inj (ho.symm.trans h.cell))⟩
      · obtain ⟨-, cur, hc⟩ := h.row.block e2
        exact hn ⟨_, _, .inr (Option.some.inj (ho.symm.trans hc))⟩⟩
/-- A cell of the sender is stored. -/
theorem RnE.put (h : RnE B w g S v) (i : Nat) (u : Value) {V : Sn} (hL : V.L = S.L) (hc : (rnC S v).setIfInBounds i u = rnC V v) : RnE B (w.setCell ⟨g, i, none⟩ u) g V v ∧ WR B w (w.setCell ⟨g, i, none⟩ u) := by
  have hg : w.grownBy (w.setCell ⟨g, i, none⟩ u) (some g) := only_store (only_of_below (Below.refl _ w) (some g)) _
  refine ⟨⟨?_, ?_, h.low⟩, h.wr hg fun k e => .inl (Option.some.inj e).symm⟩
  · have := h.cell.store i u
    rwa [hc] at this
  · rw [hL]
    exact h.row.past hg fun k e => by cases e; exact h.apart
end
end Go.Proofs.Ytbomlapmoiamgaa.hop
