/-
  The predicate of lose; slices.IndexFunc at letters with it.
-/
import Derived.Test.YtbomlapmoiamgaaWd6
import Derived.Deep.LoopGhost
set_option linter.unusedSimpArgs false
set_option linter.unusedVariables false
namespace Go.Proofs.Ytbomlapmoiamgaa.wan
open Go.ChangeShapes Go.WideShapes Go.ChangeAt Go.RowKit
open Go.Proofs.Ytbomlapmoiamgaa.opened Go.Proofs.Ytbomlapmoiamgaa.block Go.Proofs.Ytbomlapmoiamgaa.words Go.Proofs.Ytbomlapmoiamgaa.region
def pL (a b : Int) (l : Lt) : Bool := l.f == a && l.t == b
section
variable {B : Nat} {w : World}
theorem lose1_any (a b : Int) (l : Lt) (x y : Nat) (hx : w.cell? ⟨x, 0, none⟩ = some (.int .i64 a)) (hy : w.cell? ⟨y, 0, none⟩ = some (.int .i64 b)) : Calls Try.prog 58 #[l.val, .pointer (some ⟨x, 0, none⟩), .pointer (some ⟨y, 0, none⟩)] w fun e w' => e = .returned (.bool (pL a b l)) ∧ Below w.heap.size w w' := by
  have hxi : x < w.heap.size := by
    rcases Nat.lt_or_ge x w.heap.size with h | h
    · exact h
    · simp [World.cell?, Array.getElem?_eq_none h] at hx
  have hyi : y < w.heap.size := by
    rcases Nat.lt_or_ge y w.heap.size with h | h
    · exact h
    · simp [World.cell?, Array.getElem?_eq_none h] at hy
  have B1 : Hid (Below w.heap.size w (w.alloc (.cells (cL l).toArray 34))) := Lib.hid (fresh1 w _)
  have R1 := Whole.fresh w 34 (cL l).toArray
  have k0 : (w.alloc (.cells (cL l).toArray 34)).cell? ⟨w.heap.size, 0, none⟩ = some (.int .i64 l.f) := R1.read 0
  have k1 : (w.alloc (.cells (cL l).toArray 34)).cell? ⟨w.heap.size, 1, none⟩ = some (.int .i64 l.t) := R1.read 1
  have x0 : (w.alloc (.cells (cL l).toArray 34)).cell? ⟨x, 0, none⟩ = some (.int .i64 a) := by rw [← hx]; simp only [World.cell?, B1.out.block x hxi]
  have y0 : (w.alloc (.cells (cL l).toArray 34)).cell? ⟨y, 0, none⟩ = some (.int .i64 b) := by rw [← hy]; simp only [World.cell?, B1.out.block y hyi]
  clear R1 hx hy hxi hyi
  unfold pL
  go_enter Try.func58, Try.ntmps58
  go_upto_region 1 with fail
  change Code.wp _ _ _ _ (w.alloc (.cells (cL l).toArray 34))
  generalize w.alloc (.cells (cL l).toArray 34) = w0 at B1 k0 k1 x0 y0 ⊢
  by_cases h1 : l.f = a
  · have h1b : (l.f == a) = true := by simpa using h1
    go_wp2_with fail
    go_ret
    exact ⟨by simp [h1b], B1.out⟩
  · have h1b : (l.f == a) = false := by simpa using h1
    go_wp2_with fail
    go_ret
    exact ⟨by simp [h1b], B1.out⟩
theorem row_cells {T : TypeId} {L : List Lt} {A : Option Addr} {n c : Nat} (h : OwnG T 3 cL w B (.slice A n c) L) (hn : n = L.length) (j : Nat) (hj : j < L.length) : ∃ b l, A = some ⟨b, 0, none⟩ ∧ L[j]? = some l ∧ w.cell? ⟨b, j * 3, none⟩ = some (.int .i64 l.f) ∧ w.cell? ⟨b, j * 3 + 1, none⟩ = some (.int .i64 l.t) ∧ w.cell? ⟨b, j * 3 + 2, none⟩ = some (sV l.s) := by
  subst hn
  rcases h.2 with ⟨-, hn⟩ | ⟨b, cap, cur, hv, hb, hg, hc, hcm, hs, ht⟩
  · omega
  · injection hv with h1 h2 h3
    have hlj : L[j]? = some L[j] := List.getElem?_eq_getElem hj
    have hc : ∀ q, q < 3 → w.cell? ⟨b, j * 3 + q, none⟩ = (cL L[j])[q]? := fun q hq => by
      have e := flatG_at cellsL L j L[j] q hlj hq
      have hlt : j * 3 + q < L.length * 3 := by omega
      rw [← ht, List.getElem?_take, if_pos hlt, Array.getElem?_toList] at e
      rw [← e]
      simp [World.cell?, hg]
    exact ⟨b, L[j], h1, hlj, hc 0 (by omega), hc 1 (by omega), hc 2 (by omega)⟩
/-- What a predicate of lose gives, in any world that goes on from w. -/
def Gives (w : World) (row : Option Nat) (px py : Value) (p : Lt → Bool) : Prop := ∀ (l : Lt) (w' : World), w.grownBy w' row → Calls Try.prog 58 #[l.val, px, py] w' fun e w'' => e = .returned (.bool (p l)) ∧ Below w'.heap.size w' w''
def ixP (p : Lt → Bool) (L : List Lt) : Int := if L.findIdx p < L.length then (L.findIdx p : Int) else -1
theorem ix_hit {p : Lt → Bool} {L : List Lt} {k : Nat} (hk : k < L.length) (hp : p L[k] = true) (ha : ∀ j (hj : j < L.length), j < k → p L[j] = false) : ixP p L = k := by
  have e : L.findIdx p = k := (List.findIdx_eq hk).2 ⟨hp, fun j hj => ha j (by omega) hj⟩
  unfold ixP
  rw [e, if_pos hk]
theorem ix_miss {p : Lt → Bool} {L : List Lt} (ha : ∀ j (hj : j < L.length), p L[j] = false) : ixP p L = -1 := by
  have e : L.findIdx p = L.length := List.findIdx_eq_length.2 fun x hx => by
    obtain ⟨j, hj, rfl⟩ := List.getElem_of_mem hx
    exact ha j hj
  unfold ixP
  rw [e, if_neg (Nat.lt_irrefl _)]
set_option maxRecDepth 100000 in
theorem index_any {L : List Lt} {A : Option Addr} {c : Nat} {x y : Addr} {p : Lt → Bool} {row : Option Nat} (h : OwnG 34 3 cL w B (.slice A L.length c) L) (hl : L.length ≤ 96) (HP : Gives w row (.pointer (some x)) (.pointer (some y)) p) : Calls Try.prog 67 #[.slice A L.length c, .func (.func 58) #[] #[.pointer (some x), .pointer (some y)]] w fun e w' => e = .returned (.int .i64 (ixP p L)) ∧ Below w.heap.size w w' := by
  obtain ⟨n, hn⟩ : ∃ n, n = L.length := ⟨_, rfl⟩
  have HN := Lib.hid hn
  have HH := Lib.hid h
  have HPh := Lib.hid HP
  rw [← hn] at hl ⊢
  clear h hn HP
  go_enter Try.func67, Try.ntmps67
  go_wp2_with fail
  go_loopg [5, 8] n (fun gg _ s8 wr => ∃ kk : Nat, kk ≤ n ∧ n - kk ≤ gg ∧ s8 = .int .i64 kk ∧ Hid (Below w.heap.size w wr) ∧ Hid (∀ j (hj : j < L.length), j < kk → p L[j] = false))
  case atStart => exact ⟨0, Nat.zero_le _, by omega, rfl, Below.refl _ _, fun j _ hj => absurd hj (Nat.not_lt_zero _)⟩
  case round =>
    obtain ⟨kk, hkk, hgg, rfl, BW, HA⟩ := hrel
    by_cases hlt : kk < n
    · have hltz : (kk : Int) < (n : Int) := by omega
      obtain ⟨b, l, hA, hlj, z0, z1, z2⟩ := row_cells (HH.out.below BW.out) rfl kk (by rw [← HN.out]; exact hlt)
      subst hA
      have HL := Lib.hid hlj
      have HC := Lib.hid (HPh.out l _ (only_of_below BW.out row))
      clear hlj
      have hpl : ∀ (hj : kk < L.length), L[kk] = l := fun hj => by
        have := HL.out
        rw [List.getElem?_eq_getElem hj] at this
        exact Option.some.inj this
      have HPL := Lib.hid hpl
      clear hpl
      cases hq : p l with
      | true =>
        rw [hq] at HC
        go_wp2_with (go_at_call 58; (with_reducible refine HC.out.mono ?_); rintro e w1 ⟨rfl, b1⟩; have B1 := Lib.hid (then_below BW.out b1); clear b1)
        go_ret
        refine ⟨?_, B1.out⟩
        have hk : kk < L.length := by rw [← HN.out]; exact hlt
        rw [ix_hit hk (by rw [HPL.out hk]; exact hq) HA.out]
        rfl
      | false =>
        rw [hq] at HC
        go_wp2_with (go_at_call 58; (with_reducible refine HC.out.mono ?_); rintro e w1 ⟨rfl, b1⟩; have B1 := Lib.hid (then_below BW.out b1); clear b1)
        go_roundg (n - (kk + 1))
        case measure => omega
        case rel =>
          refine ⟨kk + 1, by omega, by omega, by go_num, B1, fun j hj hjk => ?_⟩
          by_cases e : j = kk
          · subst e
            rw [HPL.out hj]; exact hq
          · exact HA.out j hj (by omega)
    · have hltz : ¬ (kk : Int) < (n : Int) := by omega
      have : kk = n := by omega
      subst this
      go_wp2_with fail
      go_ret
      refine ⟨?_, BW.out⟩
      rw [ix_miss fun j hj => HA.out j hj (by have := HN.out; omega)]
      rfl
end
end Go.Proofs.Ytbomlapmoiamgaa.wan
