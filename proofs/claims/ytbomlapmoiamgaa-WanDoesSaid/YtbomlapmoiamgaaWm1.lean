/-
  WanCounts as mathematics: what was sent, doubled, taken and lost.
-/
import Derived.Test.YtbomlapmoiamgaaWk1
set_option linter.unusedSimpArgs false
set_option linter.unusedVariables false
namespace Go.Proofs.Ytbomlapmoiamgaa.wan
open Go.ChangeShapes Go.WideShapes Go.ChangeAt Go.RowKit
open Go.Proofs.Ytbomlapmoiamgaa.opened Go.Proofs.Ytbomlapmoiamgaa.block Go.Proofs.Ytbomlapmoiamgaa.words Go.Proofs.Ytbomlapmoiamgaa.region
/-- Behind k acts: a letters came in, b were taken, r were refused; S are those that were sent. -/
structure Cnt (k : Nat) (W : Wn) (S : List Lt) (a b r : Int) : Prop where
  good : GoodW W
  c : W.c ≤ 96 * k
  sent : ∀ l ∈ W.L, l ∈ S
  free : ∀ l ∈ W.L, linkB W l.f l.t = true ∧ outB W l.f l.t = false
  sum : a = b + W.L.length + W.c - r
theorem cnt_new {n : Int} (h0 : 2 ≤ n) (h1 : n ≤ 16) : Cnt 0 ⟨n, [], O0, 0⟩ [] 0 0 0 := ⟨(sent_new h0 h1).good, Int.le_refl _, fun l h => by simp at h, fun l h => by simp at h, by simp⟩
section
variable {k : Nat} {W : Wn} {S : List Lt} {a b r : Int}
theorem Cnt.more (h : Cnt k W S a b r) : Cnt (k + 1) W S a b r := ⟨h.good, by have := h.c; omega, h.sent, h.free, h.sum⟩
theorem Cnt.refuse (h : Cnt k W S a b r) (hk : k < 1000) : Cnt (k + 1) { W with c := W.c + 1 } S a b (r + 1) := by
  have hc := h.c
  have hc0 := h.good.c0
  exact ⟨good_lost h.good (by omega) (by omega), by show W.c + 1 ≤ _; omega, h.sent, h.free, by have := h.sum; show a = b + W.L.length + (W.c + 1) - (r + 1); omega⟩
theorem Cnt.lay (h : Cnt k W S a b r) (l : Lt) (hl : W.L.length < 96) (hs : linkB W l.f l.t = true ∧ outB W l.f l.t = false) {S' : List Lt} (hS : ∀ x ∈ S, x ∈ S') (hin : l ∈ S') : Cnt (k + 1) { W with L := W.L ++ [l] } S' (a + 1) b r := by
  refine ⟨⟨h.good.n0, h.good.n1, h.good.o, by show (W.L ++ [l]).length ≤ 96; rw [List.length_append]; show W.L.length + 1 ≤ 96; omega, h.good.c0, h.good.c1⟩, by have := h.c; show W.c ≤ _; omega, fun x hx => ?_, fun x hx => ?_, ?_⟩
  · rcases List.mem_append.1 hx with h1 | h1
    · exact hS x (h.sent x h1)
    · rw [List.mem_singleton.1 h1]; exact hin
  · rcases List.mem_append.1 hx with h1 | h1
    · exact h.free x h1
    · rw [List.mem_singleton.1 h1]; exact hs
  · have := h.sum
    show a + 1 = b + ((W.L ++ [l]).length : Nat) + W.c - r
    rw [List.length_append]
    show a + 1 = b + ((W.L.length + 1 : Nat) : Int) + W.c - r
    omega
/-- What Send makes of it. -/
theorem Cnt.send (h : Cnt k W S a b r) (hk : k < 1000) (l : Lt) :
    (sendE W l = 0 ∧ Cnt (k + 1) (sendV W l) (l :: S) (a + 1) b r) ∨ ((sendE W l = 14 ∨ sendE W l = 2) ∧ Cnt (k + 1) (sendV W l) S a b (r + 1)) ∨ ((sendE W l = 1 ∨ sendE W l = 7) ∧ Cnt (k + 1) (sendV W l) S a b r) := by
  unfold sendE sendV
  by_cases h1 : linkB W l.f l.t = true
  · rw [if_pos h1, if_pos h1]
    by_cases h2 : 8192 < l.s.length
    · rw [if_pos h2, if_pos h2]
      exact .inr (.inr ⟨.inr rfl, h.more⟩)
    · rw [if_neg h2, if_neg h2]
      by_cases h3 : outB W l.f l.t = true
      · rw [if_pos h3, if_pos h3]
        exact .inr (.inl ⟨.inl rfl, h.refuse hk⟩)
      · rw [if_neg h3, if_neg h3]
        unfold layE layV
        by_cases h4 : 96 ≤ W.L.length
        · rw [if_pos h4, if_pos h4]
          exact .inr (.inl ⟨.inr rfl, h.refuse hk⟩)
        · rw [if_neg h4, if_neg h4, if_neg h4]
          exact .inl ⟨rfl, h.lay l (by omega) ⟨h1, by simpa using h3⟩ (fun x hx => List.mem_cons_of_mem _ hx) (List.mem_cons_self ..)⟩
  · rw [if_neg h1, if_neg h1]
    exact .inr (.inr ⟨.inl rfl, h.more⟩)
theorem at_mem {i : Int} (h : atE W i = 0) : atV W i ∈ W.L := by
  unfold atE at h
  split at h
  · rename_i h1
    unfold atV
    rw [if_pos h1.1, List.getElem?_eq_getElem (by omega)]
    exact List.getElem_mem _
  · cases h
/-- What Take makes of it: what is taken was sent, and its link is not out. -/
theorem Cnt.take (h : Cnt k W S a b r) (i : Int) : (atE W i = 0 ∧ atV W i ∈ S ∧ outB (takeV W i) (atV W i).f (atV W i).t = false ∧ Cnt (k + 1) (takeV W i) S a (b + 1) r) ∨ (atE W i = 1 ∧ Cnt (k + 1) (takeV W i) S a b r) := by
  by_cases h0 : atE W i = 0
  · have hm := at_mem h0
    have hb : 0 ≤ i ∧ i < W.L.length := by
      unfold atE at h0
      split at h0
      · assumption
      · cases h0
    unfold takeV
    rw [if_neg (by simp [h0])]
    have hle : (W.L.eraseIdx i.toNat).length = W.L.length - 1 := List.length_eraseIdx_of_lt (by omega)
    refine .inl ⟨h0, h.sent _ hm, (h.free _ hm).2, ⟨h.good.n0, h.good.n1, h.good.o, ?_, h.good.c0, h.good.c1⟩, by have := h.c; show W.c ≤ _; omega, fun x hx => h.sent x (List.mem_of_mem_eraseIdx hx), fun x hx => h.free x (List.mem_of_mem_eraseIdx hx), ?_⟩
    · show (W.L.eraseIdx i.toNat).length ≤ 96
      have := h.good.l
      omega
    · show a = b + 1 + ((W.L.eraseIdx i.toNat).length : Nat) + W.c - r
      have := h.sum
      rw [hle]
      omega
  · have h1 : atE W i = 1 := by
      unfold atE at h0 ⊢
      split
      · rename_i hx
        rw [if_pos hx] at h0
        exact absurd rfl h0
      · rfl
    unfold takeV
    rw [if_pos h0]
    exact .inr ⟨h1, h.more⟩
/-- What Double makes of it. -/
theorem Cnt.double (h : Cnt k W S a b r) (i : Int) : (dblE W i = 0 ∧ Cnt (k + 1) (dblV W i) S (a + 1) b r) ∨ ((dblE W i = 1 ∨ dblE W i = 2) ∧ Cnt (k + 1) (dblV W i) S a b r) := by
  unfold dblE dblV
  by_cases h0 : atE W i = 0
  · rw [if_neg (by simp [h0]), if_neg (by simp [h0])]
    have hm := at_mem h0
    unfold layE layV
    by_cases h4 : 96 ≤ W.L.length
    · rw [if_pos h4, if_pos h4]
      exact .inr ⟨.inr rfl, h.more⟩
    · rw [if_neg h4, if_neg h4]
      exact .inl ⟨rfl, h.lay _ (by omega) (h.free _ hm) (fun x hx => hx) (h.sent _ hm)⟩
  · rw [if_pos h0, if_pos h0]
    refine .inr ⟨.inl ?_, h.more⟩
    unfold atE at h0 ⊢
    split
    · rename_i hx
      rw [if_pos hx] at h0
      exact absurd rfl h0
    · rfl
theorem idx_ne {f t x y n : Int} (h0 : 0 ≤ f) (h1 : f < n) (h2 : 0 ≤ t) (h3 : t < n) (a0 : 0 ≤ x) (a1 : x < n) (a2 : 0 ≤ y) (a3 : y < n) (hn : n ≤ 16) (h : ¬ (f = x ∧ t = y)) : x.toNat * 16 + y.toNat ≠ f.toNat * 16 + t.toNat := by omega
/-- What Cut makes of it. -/
theorem Cnt.cut (h : Cnt k W S a b r) (hk : k < 1000) (x y : Int) (o : Bool) : Cnt (k + 1) (cutV W x y o) S a b r := by
  unfold cutV
  by_cases h1 : linkB W x y = true
  · rw [if_pos h1]
    obtain ⟨x0, x1, y0, y1, -⟩ := link_of h1
    have hn := h.good.n1
    have hfl : (notP (pL x y) W.L).length ≤ W.L.length := List.length_filter_le _ _
    have h96 := h.good.l
    have hc := h.c
    have hc0 := h.good.c0
    have hsum := h.sum
    have hO : (W.O.set (x.toNat * 16 + y.toNat) o).length = 256 := by rw [List.length_set]; exact h.good.o
    have hout : ∀ l ∈ W.L, ¬ (l.f = x ∧ l.t = y) ∨ o = false → outB { W with O := W.O.set (x.toNat * 16 + y.toNat) o } l.f l.t = false := fun l hl hd => by
      obtain ⟨e1, e2⟩ := h.free l hl
      obtain ⟨f0, f1, t0, t1, -⟩ := link_of e1
      unfold outB at e2 ⊢
      rw [e1, Bool.true_and] at e2
      show (linkB W l.f l.t && ((W.O.set (x.toNat * 16 + y.toNat) o)[l.f.toNat * 16 + l.t.toNat]?).getD false) = false
      rw [e1, Bool.true_and]
      by_cases he : x.toNat * 16 + y.toNat = l.f.toNat * 16 + l.t.toNat
      · rcases hd with hd | hd
        · exact absurd he (idx_ne f0 f1 t0 t1 x0 x1 y0 y1 hn hd)
        · rw [← he, List.getElem?_set_self (by rw [h.good.o]; omega), hd]
          rfl
      · rw [List.getElem?_set_ne he]
        exact e2
    cases o with
    | true =>
      rw [if_pos rfl]
      have hln : (lostN { W with O := W.O.set (x.toNat * 16 + y.toNat) true } x y : Nat) = W.L.length - (notP (pL x y) W.L).length := rfl
      refine ⟨⟨h.good.n0, h.good.n1, hO, ?_, ?_, ?_⟩, ?_, fun l hl => h.sent l ((List.mem_filter.1 hl).1), fun l hl => ⟨(h.free l ((List.mem_filter.1 hl).1)).1, hout l ((List.mem_filter.1 hl).1) (.inl fun e => ?_)⟩, ?_⟩
      · show (notP (pL x y) W.L).length ≤ 96
        omega
      · show 0 ≤ W.c + (lostN _ x y : Nat)
        omega
      · show W.c + (lostN { W with O := W.O.set (x.toNat * 16 + y.toNat) true } x y : Nat) ≤ 1000000
        rw [hln]
        omega
      · show W.c + (lostN { W with O := W.O.set (x.toNat * 16 + y.toNat) true } x y : Nat) ≤ 96 * ((k + 1 : Nat) : Int)
        rw [hln]
        omega
      · have hp := (List.mem_filter.1 hl).2
        simp [pL, e.1, e.2] at hp
      · show a = b + ((notP (pL x y) W.L).length : Nat) + (W.c + (lostN { W with O := W.O.set (x.toNat * 16 + y.toNat) true } x y : Nat)) - r
        rw [hln]
        omega
    | false =>
      rw [if_neg (by decide)]
      exact ⟨⟨h.good.n0, h.good.n1, hO, h.good.l, h.good.c0, h.good.c1⟩, by show W.c ≤ _; omega, h.sent, fun l hl => ⟨(h.free l hl).1, hout l hl (.inr rfl)⟩, hsum⟩
  · rw [if_neg h1]
    exact h.more
end
end Go.Proofs.Ytbomlapmoiamgaa.wan
