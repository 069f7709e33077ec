/-
  A sender and a receiver as mathematics.
-/
import Derived.Test.YtbomlapmoiamgaaOs
set_option linter.unusedSimpArgs false
set_option linter.unusedVariables false
namespace Go.Proofs.Ytbomlapmoiamgaa.hop
open Go.ChangeShapes Go.WideShapes Go.ChangeAt Go.RowKit
open Go.Proofs.Ytbomlapmoiamgaa.opened Go.Proofs.Ytbomlapmoiamgaa.block Go.Proofs.Ytbomlapmoiamgaa.words

structure It where
  n : Int
  s : Bs
deriving DecidableEq
def cI (x : It) : List Value := [.int .i64 x.n, sV x.s]
abbrev It.val (x : It) : Value := .agg #[.int .i64 x.n, sV x.s]
structure Sn where
  e : Int
  wd : Int
  wt : Int
  a : Int
  s : Int
  k : Int
  L : List It
def nextV (S : Sn) : Int := S.a + S.L.length + 1
structure GoodS (S : Sn) : Prop where
  e0 : 1 ≤ S.e
  e1 : S.e ≤ 1073741824
  w0 : 1 ≤ S.wd
  w1 : S.wd ≤ 16
  t0 : 1 ≤ S.wt
  t1 : S.wt ≤ 100
  a0 : 0 ≤ S.a
  s0 : S.a ≤ S.s
  s1 : S.s - S.a ≤ S.wd
  s2 : S.s - S.a ≤ S.L.length
  l : S.L.length ≤ 64
  m : S.a + S.L.length ≤ 1099511627776
  k0 : 0 ≤ S.k
  k1 : S.k < S.wt
  n : ∀ (i : Nat) (x : It), S.L[i]? = some x → x.n = S.a + 1 + i
  x : ∀ x ∈ S.L, x.s.length ≤ 6000
def putE (S : Sn) (t : Bs) : Int := if 6000 < t.length then 7 else if 64 ≤ S.L.length ∨ 1099511627776 < nextV S then 2 else 0
def putN (S : Sn) (t : Bs) : Int := if putE S t = 0 then nextV S else 0
def putV (S : Sn) (t : Bs) : Sn := if putE S t = 0 then { S with L := S.L ++ [⟨nextV S, t⟩] } else S
def ackB (S : Sn) (e n : Int) : Bool := decide (e = S.e ∧ S.a < n ∧ n < nextV S)
def ackV (S : Sn) (e n : Int) : Sn := if ackB S e n = true then { S with L := S.L.drop (n - S.a).toNat, a := n, s := max S.s n, k := 0 } else S
def tickV (S : Sn) : Sn := if S.s = S.a then S else if S.wt ≤ S.k + 1 then { S with s := S.a, k := 0 } else { S with k := S.k + 1 }
def outL (S : Sn) : List It := (S.L.take S.wd.toNat).drop (S.s - S.a).toNat
def outV (S : Sn) : Sn := { S with s := S.s + (outL S).length }
def newV (e a wd wt : Int) : Sn := ⟨e, wd, wt, a, a, 0, []⟩
def NewOk (e a wd wt : Int) : Prop := (1 ≤ e ∧ e ≤ 1073741824) ∧ (0 ≤ a ∧ a ≤ 1099511627776) ∧ (1 ≤ wd ∧ wd ≤ 16) ∧ (1 ≤ wt ∧ wt ≤ 100)
theorem good_new {e a wd wt : Int} (h : NewOk e a wd wt) : GoodS (newV e a wd wt) := by
  obtain ⟨⟨h1, h2⟩, ⟨h3, h4⟩, ⟨h5, h6⟩, ⟨h7, h8⟩⟩ := h
  refine ⟨h1, h2, h5, h6, h7, h8, h3, Int.le_refl _, ?_, ?_, ?_, ?_, Int.le_refl _, ?_, ?_, ?_⟩
  · show a - a ≤ wd; omega
  · show a - a ≤ ((([] : List It).length : Nat) : Int); simp
  · show ([] : List It).length ≤ 64; simp
  · show a + ((([] : List It).length : Nat) : Int) ≤ _; simp; omega
  · show 0 < wt; omega
  · intro i x hx; simp [newV] at hx
  · intro x hx; simp [newV] at hx
theorem GoodS.put {S : Sn} (G : GoodS S) (t : Bs) : GoodS (putV S t) := by
  unfold putV
  by_cases h : putE S t = 0
  · rw [if_pos h]
    unfold putE at h
    by_cases h6 : 6000 < t.length
    · rw [if_pos h6] at h; cases h
    · rw [if_neg h6] at h
      by_cases h64 : 64 ≤ S.L.length ∨ 1099511627776 < nextV S
      · rw [if_pos h64] at h; cases h
      · have hl : S.L.length < 64 ∧ nextV S ≤ 1099511627776 := by omega
        have hn := hl.2
        unfold nextV at hn
        refine ⟨G.e0, G.e1, G.w0, G.w1, G.t0, G.t1, G.a0, G.s0, G.s1, ?_, ?_, ?_, G.k0, G.k1, ?_, ?_⟩
        · have := G.s2; simp; omega
        · simp; omega
        · simp; omega
        · intro i x hx
          simp only at hx ⊢
          by_cases hi : i < S.L.length
          · rw [List.getElem?_append_left hi] at hx
            exact G.n i x hx
          · rw [List.getElem?_append_right (by omega)] at hx
            have h0 : i - S.L.length = 0 := by
              rcases hd : i - S.L.length with _ | q
              · rfl
              · rw [hd] at hx; simp at hx
            rw [h0] at hx
            simp at hx
            subst hx
            show nextV S = S.a + 1 + i
            unfold nextV
            omega
        · intro x hx
          simp only at hx
          rcases List.mem_append.1 hx with h | h
          · exact G.x x h
          · simp at h
            subst h
            show t.length ≤ 6000
            omega
  · rw [if_neg h]; exact G
theorem GoodS.ack {S : Sn} (G : GoodS S) (e n : Int) : GoodS (ackV S e n) := by
  unfold ackV ackB
  split
  · rename_i h
    obtain ⟨h1, h2, h3⟩ := of_decide_eq_true h
    unfold nextV at h3
    have g1 := G.s0; have g2 := G.s1; have g3 := G.s2; have g4 := G.m; have g5 := G.a0; have g6 := G.w0; have g7 := G.t0; have g8 := G.l
    have hl : ((S.L.drop (n - S.a).toNat).length : Int) = S.L.length - (n - S.a) := by rw [List.length_drop]; omega
    refine ⟨G.e0, G.e1, G.w0, G.w1, G.t0, G.t1, ?_, ?_, ?_, ?_, ?_, ?_, Int.le_refl _, ?_, ?_, ?_⟩
    · show 0 ≤ n; omega
    · show n ≤ max S.s n; omega
    · show max S.s n - n ≤ S.wd; omega
    · show max S.s n - n ≤ ((S.L.drop (n - S.a).toNat).length : Int); omega
    · show (S.L.drop (n - S.a).toNat).length ≤ 64; omega
    · show n + ((S.L.drop (n - S.a).toNat).length : Int) ≤ _; omega
    · show 0 < S.wt; omega
    · intro i x hx
      simp only [List.getElem?_drop] at hx
      have := G.n _ x hx
      show x.n = n + 1 + i
      omega
    · intro x hx
      exact G.x x (List.mem_of_mem_drop hx)
  · exact G
theorem GoodS.tick {S : Sn} (G : GoodS S) : GoodS (tickV S) := by
  have g1 := G.s0; have g2 := G.s1; have g3 := G.s2; have g4 := G.t0; have g5 := G.k0; have g6 := G.w0
  unfold tickV
  split
  · exact G
  · split
    · exact ⟨G.e0, G.e1, G.w0, G.w1, G.t0, G.t1, G.a0, Int.le_refl _, by show S.a - S.a ≤ S.wd; omega, by show S.a - S.a ≤ (S.L.length : Int); omega, G.l, G.m, Int.le_refl _, by show 0 < S.wt; omega, G.n, G.x⟩
    · exact ⟨G.e0, G.e1, G.w0, G.w1, G.t0, G.t1, G.a0, G.s0, G.s1, G.s2, G.l, G.m, by show 0 ≤ S.k + 1; omega, by show S.k + 1 < S.wt; omega, G.n, G.x⟩
theorem outL_len {S : Sn} (G : GoodS S) : ((outL S).length : Int) = min S.wd S.L.length - (S.s - S.a) := by
  have g1 := G.s0; have g2 := G.s1; have g3 := G.s2; have g6 := G.w0
  unfold outL
  rw [List.length_drop, List.length_take]
  omega
theorem GoodS.out {S : Sn} (G : GoodS S) : GoodS (outV S) := by
  have h := outL_len G
  have g1 := G.s0; have g2 := G.s1; have g3 := G.s2
  exact ⟨G.e0, G.e1, G.w0, G.w1, G.t0, G.t1, G.a0, by show S.a ≤ S.s + _; omega, by show S.s + _ - S.a ≤ S.wd; omega, by show S.s + _ - S.a ≤ (S.L.length : Int); omega, G.l, G.m, G.k0, G.k1, G.n, G.x⟩
theorem outL_at {S : Sn} (G : GoodS S) (i : Nat) : (outL S)[i]? = if (i : Int) < min S.wd S.L.length - (S.s - S.a) then S.L[(S.s - S.a).toNat + i]? else none := by
  have g1 := G.s0; have g2 := G.s1; have g3 := G.s2; have g6 := G.w0
  unfold outL
  rw [List.getElem?_drop]
  split
  · rw [List.getElem?_take, if_pos (by omega)]
  · rw [List.getElem?_eq_none (by rw [List.length_take]; omega)]
theorem outL_n {S : Sn} (G : GoodS S) {i : Nat} {x : It} (h : (outL S)[i]? = some x) : x.n = S.s + 1 + i ∧ x ∈ S.L := by
  rw [outL_at G] at h
  split at h
  · have := G.n _ x h
    have g1 := G.s0
    exact ⟨by omega, List.mem_of_getElem? h⟩
  · cases h

structure Rv where
  e : Int
  l : Int
def takeB (R : Rv) (e n : Int) : Bool := decide (R.e ≤ e ∧ n = R.l + 1)
def takeV (R : Rv) (e n : Int) : Rv := if e < R.e then R else if n = R.l + 1 then ⟨e, n⟩ else ⟨e, R.l⟩
theorem take_l (R : Rv) (e n : Int) : (takeV R e n).l = if takeB R e n = true then R.l + 1 else R.l := by
  unfold takeV takeB
  by_cases h1 : e < R.e
  · rw [if_pos h1, if_neg (by simp; omega)]
  · rw [if_neg h1]
    by_cases h2 : n = R.l + 1
    · rw [if_pos h2, if_pos (by simp; omega)]; exact h2
    · rw [if_neg h2, if_neg (by simp; omega)]
theorem take_e (R : Rv) (e n : Int) : (takeV R e n).e = max R.e e := by
  unfold takeV
  split
  · omega
  · split <;> (dsimp only; omega)
end Go.Proofs.Ytbomlapmoiamgaa.hop
