/-
  Mathematics of HopOnce: what is on its way, and the end of it.
-/
import Derived.Test.YtbomlapmoiamgaaHp0
set_option linter.unusedSimpArgs false
set_option linter.unusedVariables false
namespace Go.Proofs.Ytbomlapmoiamgaa.hop
open Go.ChangeShapes Go.WideShapes Go.ChangeAt Go.RowKit
open Go.Proofs.Ytbomlapmoiamgaa.opened Go.Proofs.Ytbomlapmoiamgaa.block Go.Proofs.Ytbomlapmoiamgaa.words

def byteOf (n : Int) : Bs := [UInt8.ofNat n.toNat]
/-- A frame on its way: its epoch and its number. -/
structure Fr where
  e : Int
  n : Int
def cF (x : Fr) : List Value := [.int .i64 0, .int .i64 0, .int .i64 x.e, .int .i64 x.n, sV []]
/-- How a sender stands: all that was put is with it, and says its number. -/
structure Sd (E p wd wt : Int) (S : Sn) : Prop where
  good : GoodS S
  e : S.e = E
  wd : S.wd = wd
  wt : S.wt = wt
  p : S.a + S.L.length = p
  b : ∀ x ∈ S.L, x.s = byteOf x.n
structure Rd (E p a : Int) (R : Rv) : Prop where
  e0 : 0 ≤ R.e
  e1 : R.e ≤ E
  lo : a ≤ R.l
  hi : R.l ≤ p
  a0 : 0 ≤ a
def WayOk (E p : Int) (l : List Fr) : Prop := ∀ x ∈ l, (1 ≤ x.e ∧ x.e ≤ E) ∧ (1 ≤ x.n ∧ x.n ≤ p)
def WordsOk (r : Int) (l : List Fr) : Prop := ∀ x ∈ l, x.n ≤ r
theorem WayOk.le {E p E' p' : Int} {l : List Fr} (h : WayOk E p l) (he : E ≤ E') (hp : p ≤ p') : WayOk E' p' l := fun x hx => by
  have := h x hx
  omega
theorem WordsOk.le {r r' : Int} {l : List Fr} (h : WordsOk r l) (hr : r ≤ r') : WordsOk r' l := fun x hx => by
  have := h x hx
  omega
theorem WayOk.snoc {E p : Int} {l : List Fr} (h : WayOk E p l) {x : Fr} (hx : (1 ≤ x.e ∧ x.e ≤ E) ∧ (1 ≤ x.n ∧ x.n ≤ p)) : WayOk E p (l ++ [x]) := fun y hy => by
  rcases List.mem_append.1 hy with h1 | h1
  · exact h y h1
  · simp at h1; subst h1; exact hx
theorem WordsOk.snoc {r : Int} {l : List Fr} (h : WordsOk r l) {x : Fr} (hx : x.n ≤ r) : WordsOk r (l ++ [x]) := fun y hy => by
  rcases List.mem_append.1 hy with h1 | h1
  · exact h y h1
  · simp at h1; subst h1; exact hx
theorem WayOk.cut {E p : Int} {l : List Fr} (h : WayOk E p l) (k : Nat) : WayOk E p (l.take k ++ l.drop (k + 1)) := fun y hy => by
  rcases List.mem_append.1 hy with h1 | h1
  · exact h y (List.mem_of_mem_take h1)
  · exact h y (List.mem_of_mem_drop h1)
section
variable {E p wd wt : Int} {S : Sn} {R : Rv}
theorem Sd.tick (h : Sd E p wd wt S) : Sd E p wd wt (tickV S) ∧ (tickV S).a = S.a := by
  have hg := h.good.tick
  have h1 := h.e; have h2 := h.wd; have h3 := h.wt; have h4 := h.p; have h5 := h.b
  unfold tickV at hg ⊢
  split
  · exact ⟨h, rfl⟩
  · rename_i a
    rw [if_neg a] at hg
    split
    · rename_i b
      rw [if_pos b] at hg
      exact ⟨⟨hg, h1, h2, h3, h4, h5⟩, rfl⟩
    · rename_i b
      rw [if_neg b] at hg
      exact ⟨⟨hg, h1, h2, h3, h4, h5⟩, rfl⟩
theorem Sd.out (h : Sd E p wd wt S) : Sd E p wd wt (outV S) ∧ (outV S).a = S.a :=
  ⟨⟨h.good.out, h.e, h.wd, h.wt, h.p, h.b⟩, rfl⟩
theorem ack_a (S : Sn) (e n : Int) : (ackV S e n).a = if ackB S e n = true then n else S.a := by
  unfold ackV
  split <;> rfl
theorem ack_cases (S : Sn) (e n : Int) : (ackB S e n = true ∧ e = S.e ∧ S.a < n ∧ n ≤ S.a + S.L.length ∧ (ackV S e n).a = n) ∨ (ackB S e n = false ∧ ackV S e n = S ∧ ¬ (e = S.e ∧ S.a < n ∧ n ≤ S.a + S.L.length)) := by
  by_cases h : ackB S e n = true
  · refine .inl ?_
    have ha := ack_a S e n
    rw [if_pos h] at ha
    unfold ackB at h
    have h2 := of_decide_eq_true h
    unfold nextV at h2
    unfold ackB nextV
    refine ⟨decide_eq_true (by omega), h2.1, h2.2.1, by omega, ha⟩
  · refine .inr ?_
    have hb : ackV S e n = S := by unfold ackV; rw [if_neg h]
    have h2 := h
    unfold ackB nextV at h2
    have h3 : ¬ (e = S.e ∧ S.a < n ∧ n < S.a + S.L.length + 1) := fun hx => h2 (decide_eq_true hx)
    exact ⟨by simpa using h, hb, fun hx => h3 ⟨hx.1, hx.2.1, by omega⟩⟩
theorem Sd.ack (h : Sd E p wd wt S) (e n : Int) : Sd E p wd wt (ackV S e n) := by
  have hg := h.good.ack e n
  have h1 := h.e; have h2 := h.wd; have h3 := h.wt; have h4 := h.p; have h5 := h.b
  rcases ack_cases S e n with ⟨hb, he, ha, hn, -⟩ | ⟨-, hs, -⟩
  · unfold ackV at hg ⊢
    rw [if_pos hb] at hg ⊢
    refine ⟨hg, h1, h2, h3, ?_, fun x hx => h5 x (List.mem_of_mem_drop hx)⟩
    show n + ((S.L.drop (n - S.a).toNat).length : Int) = p
    rw [List.length_drop]
    omega
  · rw [hs]; exact h
theorem Sd.put (h : Sd E p wd wt S) (hp : p ≤ 1000000) : (putE S (byteOf (p + 1)) = 0 ∧ putN S (byteOf (p + 1)) = p + 1 ∧ Sd E (p + 1) wd wt (putV S (byteOf (p + 1)))) ∨ (putE S (byteOf (p + 1)) = 2 ∧ putN S (byteOf (p + 1)) = 0 ∧ putV S (byteOf (p + 1)) = S) := by
  have hg := h.good.put (byteOf (p + 1))
  have h1 := h.e; have h2 := h.wd; have h3 := h.wt; have h4 := h.p; have h5 := h.b
  have hnx : nextV S = p + 1 := by unfold nextV; omega
  have hl : ¬ 6000 < (byteOf (p + 1)).length := by unfold byteOf; simp
  by_cases h64 : 64 ≤ S.L.length
  · have he : putE S (byteOf (p + 1)) = 2 := by unfold putE; rw [if_neg hl, if_pos (.inl h64)]
    refine .inr ⟨he, ?_, ?_⟩
    · unfold putN; rw [he]; rfl
    · unfold putV; rw [he]; rfl
  · have he : putE S (byteOf (p + 1)) = 0 := by unfold putE; rw [if_neg hl, if_neg (by rw [hnx]; omega)]
    refine .inl ⟨he, ?_, ?_⟩
    · unfold putN; rw [if_pos he, hnx]
    · unfold putV at hg ⊢
      rw [if_pos he] at hg ⊢
      refine ⟨hg, h1, h2, h3, by show S.a + ((S.L ++ [_]).length : Int) = p + 1; simp; omega, ?_⟩
      intro x hx
      simp only at hx
      rcases List.mem_append.1 hx with h | h
      · exact h5 x h
      · simp at h; subst h
        show byteOf (p + 1) = byteOf (nextV S)
        rw [hnx]
theorem Sd.outs (h : Sd E p wd wt S) {i : Nat} {x : It} (hx : (outL S)[i]? = some x) : x.s = byteOf x.n ∧ x.n = S.s + 1 + i ∧ 1 ≤ x.n ∧ x.n ≤ p := by
  obtain ⟨h1, h2⟩ := outL_n h.good hx
  have hi := (List.getElem?_eq_some_iff.1 hx).1
  have hl := outL_len h.good
  have g1 := h.good.s0; have g2 := h.good.a0; have g3 := h.p
  exact ⟨h.b x h2, h1, by omega, by omega⟩
theorem Rd.take {a : Int} (h : Rd E p a R) {e n : Int} (he : e ≤ E) (hn : n ≤ p) : Rd E p a (takeV R e n) := by
  have h1 := take_l R e n
  have h2 := take_e R e n
  have g1 := h.e0; have g2 := h.e1; have g3 := h.lo; have g4 := h.hi
  refine ⟨by omega, by omega, ?_, ?_, h.a0⟩
  · split at h1 <;> omega
  · split at h1
    · rename_i hb
      unfold takeB at hb
      have := of_decide_eq_true hb
      omega
    · omega
theorem Rd.ack {a : Int} (h : Rd E p a R) {a' : Int} (h0 : a ≤ a') (ha : a' ≤ R.l) : Rd E p a' R := ⟨h.e0, h.e1, ha, h.hi, by have := h.a0; omega⟩
/-- How far the end of it is. -/
def far (S : Sn) : Int := S.L.length * 10 + (S.wt - S.k)
/-- In the midst of a round: nothing came of it yet, or it went on. -/
def Mid (S1 : Sn) (f : Int) (j : Nat) (S : Sn) : Prop := (S = S1 ∧ (f = S1.a → j = 0)) ∨ S1.a < S.a
structure Rnd (E p wd wt : Int) (S : Sn) (R : Rv) : Prop where
  s : Sd E p wd wt S
  r : Rd E p S.a R
theorem Rnd.tick (h : Rnd E p wd wt S R) : Rnd E p wd wt (tickV S) R := ⟨h.s.tick.1, by rw [h.s.tick.2]; exact h.r⟩
theorem Rnd.out (h : Rnd E p wd wt S R) : Rnd E p wd wt (outV S) R := ⟨h.s.out.1, h.r⟩
/-- A step of a round: an item comes, and word of it is heard. -/
theorem Rnd.step (h : Rnd E p wd wt S R) {n : Int} (hn : n ≤ p) : Rnd E p wd wt (ackV S (takeV R E n).e (takeV R E n).l) (takeV R E n) ∧ (takeV R E n).e = E ∧ (ackV S (takeV R E n).e (takeV R E n).l).a = (takeV R E n).l := by
  have hr := h.r.take (Int.le_refl E) hn
  have he : (takeV R E n).e = E := by
    have := take_e R E n
    have := h.r.e1
    omega
  have hs := h.s.ack (takeV R E n).e (takeV R E n).l
  have ha : (ackV S (takeV R E n).e (takeV R E n).l).a = (takeV R E n).l := by
    rcases ack_cases S (takeV R E n).e (takeV R E n).l with ⟨-, -, -, -, hx⟩ | ⟨-, hx, hy⟩
    · exact hx
    · rw [hx]
      have g1 := hr.lo
      have g2 := hr.hi
      have g3 := h.s.p
      have g4 := h.s.e
      have : ¬ S.a < (takeV R E n).l := fun hlt => hy ⟨by omega, hlt, by omega⟩
      omega
  exact ⟨⟨hs, hr.ack (by rw [ha]; exact hr.lo) (by omega)⟩, he, ha⟩
theorem Mid.step {S1 : Sn} {f : Int} (hr : Rnd E p wd wt S R) {j : Nat} (hm : Mid S1 f j S) {n : Int} (hn : n ≤ p) (hx : n = f + 1 + j) : Mid S1 f (j + 1) (ackV S (takeV R E n).e (takeV R E n).l) := by
  obtain ⟨h1, h2, h3⟩ := hr.step hn
  have hl := take_l R E n
  have ge := hr.r.e1
  have ga := hr.r.lo
  rcases hm with ⟨rfl, hj⟩ | hm
  · by_cases hlt : S.a < (takeV R E n).l
    · exact .inr (by rw [h3]; exact hlt)
    · refine .inl ⟨?_, ?_⟩
      · rcases ack_cases S (takeV R E n).e (takeV R E n).l with ⟨-, -, hx, -, -⟩ | ⟨-, hx, -⟩
        · omega
        · exact hx
      · intro h0
        exfalso
        have := hj h0
        subst this
        have hnl : n = S.a + 1 := by omega
        have hra : R.l = S.a := by
          split at hl <;> omega
        have : takeB R E n = true := by
          unfold takeB
          exact decide_eq_true ⟨ge, by omega⟩
        rw [if_pos this] at hl
        omega
  · refine .inr ?_
    rw [h3]
    have g := h1.r.lo
    rw [h3] at g
    have : R.l ≤ (takeV R E n).l := by split at hl <;> omega
    omega
/-- A round goes on, or the end is there. -/
theorem far_less {S' : Sn} (h : Sd E p wd wt S) (h' : Sd E p wd wt S') (hw : wt ≤ 9) (hm : Mid (outV (tickV S)) (tickV S).s (outL (tickV S)).length S') : S.L.length = 0 ∧ S'.L.length = 0 ∨ far S' + 1 ≤ far S ∧ 1 ≤ S.L.length := by
  have ht := h.tick
  have hT := ht.1
  have hol := outL_len hT.good
  have g1 := h.p; have g2 := h'.p; have g3 := h.wt; have g4 := h'.wt; have g5 := h.good.k1; have g6 := h'.good.k0; have g7 := h'.good.k1
  have g8 := hT.p; have g9 := hT.good.w0; have g10 := h.good.k0
  have hc : (tickV S).s = S.a ∨ (tickV S).s ≠ S.a ∧ (tickV S).k = S.k + 1 := by
    unfold tickV
    split
    · rename_i a; exact .inl a
    · rename_i a
      split
      · exact .inl rfl
      · exact .inr ⟨a, rfl⟩
  have e1 : (outV (tickV S)).a = S.a := ht.2
  have e2 : (outV (tickV S)).k = (tickV S).k := rfl
  have e3 : (outV (tickV S)).L = (tickV S).L := rfl
  have hs0 := hT.good.s0
  have hs2 := hT.good.s2
  have hta := ht.2
  unfold far
  by_cases h0 : S.L.length = 0
  · left
    refine ⟨h0, ?_⟩
    rcases hm with ⟨rfl, -⟩ | hm
    · rw [e3]; omega
    · omega
  · right
    refine ⟨?_, by omega⟩
    rcases hm with ⟨rfl, hj⟩ | hm
    · rcases hc with hc | ⟨hc, hk⟩
      · have := hj (by rw [e1]; exact hc)
        omega
      · rw [e3, e2, hk]; omega
    · rw [e1] at hm; omega
theorem Sd.farLe (h : Sd E p wd wt S) (hw : wt ≤ 9) : far S ≤ p * 10 + 9 := by
  have g1 := h.p; have g3 := h.wt; have g4 := h.good.a0; have g5 := h.good.k0
  unfold far
  omega
theorem Mid.start (S : Sn) (f : Int) : Mid S f 0 S := .inl ⟨rfl, fun _ => rfl⟩
end
end Go.Proofs.Ytbomlapmoiamgaa.hop
