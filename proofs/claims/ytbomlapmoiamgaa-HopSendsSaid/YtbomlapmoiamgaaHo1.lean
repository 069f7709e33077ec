/-
  What stands between the rounds of HopOnce.
-/
import Derived.Test.YtbomlapmoiamgaaHw2
import Derived.Maps.AppendAt
set_option linter.unusedSimpArgs false
set_option linter.unusedVariables false
namespace Go.Proofs.Ytbomlapmoiamgaa.hop
open Go.ChangeShapes Go.WideShapes Go.ChangeAt Go.RowKit
open Go.Proofs.Ytbomlapmoiamgaa.opened Go.Proofs.Ytbomlapmoiamgaa.block Go.Proofs.Ytbomlapmoiamgaa.words Go.Proofs.Ytbomlapmoiamgaa.region
theorem cellsF : Cells 5 cF := ⟨fun _ => rfl, fun x v hv => by
  simp only [cF, List.mem_cons, List.mem_singleton, List.not_mem_nil, or_false] at hv
  rcases hv with rfl | rfl | rfl | rfl | rfl <;> rfl⟩
theorem infoF : ∃ i, Try.prog.info? 88 = some i ∧ i.zero = some (.agg #[.int .i64 0, .int .i64 0, .int .i64 0, .int .i64 0, sV []]) ∧ i.size = 5 ∧ i.bytes = 48 := by
  have h : (Try.prog.info? 88).map (fun i => (i.zero, i.size, i.bytes)) = some (some (.agg #[.int .i64 0, .int .i64 0, .int .i64 0, .int .i64 0, sV []]), 5, 48) := by kernel_rfl
  rw [Option.map_eq_some_iff] at h
  obtain ⟨i, hi, he⟩ := h
  simp only [Prod.mk.injEq] at he
  exact ⟨i, hi, he.1, he.2.1, he.2.2⟩
abbrev OwnF (w : World) (base : Nat) (A : Option Addr) (c : Nat) (Y : List Fr) : Prop := OwnG 88 5 cF w base (.slice A Y.length c) Y
theorem own_flat {α : Type} {m : Nat} {f : α → List Value} {T : TypeId} {w : World} {base b n c : Nat} {N : List α} (h : OwnG T m f w base (.slice (some ⟨b, 0, none⟩) n c) N) : base ≤ b ∧ b < w.heap.size ∧ N.length ≤ c ∧ n = N.length ∧ ∀ t u, (N.flatMap f)[t]? = some u → w.cell? ⟨b, t, none⟩ = some u ∧ w.frozen? ⟨b, t, none⟩ = false := by
  rcases h.2 with ⟨hv, -⟩ | ⟨b', cap, cur, hv, hb, hh, hcl, hcm, hcs, hct⟩
  · cases hv
  · injection hv with h1 h2 h3
    injection h1 with h1
    injection h1 with h1
    subst h1 h3
    refine ⟨hb, (Array.getElem?_eq_some_iff.1 hh).1, hcl, h2, fun t u hu => ?_⟩
    rw [← hct, List.getElem?_take] at hu
    split at hu
    · rw [Array.getElem?_toList] at hu
      exact ⟨by simp only [World.cell?, hh]; simpa using hu, by simp [World.frozen?, hh]⟩
    · cases hu
theorem own_some {α : Type} {m : Nat} {f : α → List Value} {T : TypeId} {w : World} {base n c : Nat} {A : Option Addr} {N : List α} (h : OwnG T m f w base (.slice A n c) N) (hl : 0 < N.length) : ∃ b, A = some ⟨b, 0, none⟩ := by
  rcases h.2 with ⟨-, hn⟩ | ⟨b, cap, cur, hv, -⟩
  · omega
  · injection hv with h1
    exact ⟨b, h1⟩
theorem frame_at {w : World} {base b n c : Nat} {Y : List Fr} (h : OwnG 88 5 cF w base (.slice (some ⟨b, 0, none⟩) n c) Y) {k : Nat} {x : Fr} (hk : Y[k]? = some x) : w.cell? ⟨b, k * 5, none⟩ = some (.int .i64 0) ∧ w.cell? ⟨b, k * 5 + 1, none⟩ = some (.int .i64 0) ∧ w.cell? ⟨b, k * 5 + 2, none⟩ = some (.int .i64 x.e) ∧ w.cell? ⟨b, k * 5 + 3, none⟩ = some (.int .i64 x.n) ∧ w.cell? ⟨b, k * 5 + 4, none⟩ = some (.string ByteArray.empty) ∧ w.frozen? ⟨b, k * 5, none⟩ = false := by
  have hf := (own_flat h).2.2.2.2
  have hq : ∀ q, q < 5 → (Y.flatMap cF)[k * 5 + q]? = (cF x)[q]? := fun q hq => flatG_at cellsF Y k x q hk hq
  exact ⟨(hf _ _ ((hq 0 (by omega)).trans rfl)).1, (hf _ _ ((hq 1 (by omega)).trans rfl)).1, (hf _ _ ((hq 2 (by omega)).trans rfl)).1, (hf _ _ ((hq 3 (by omega)).trans rfl)).1, (hf _ _ ((hq 4 (by omega)).trans rfl)).1, (hf _ _ ((hq 0 (by omega)).trans rfl)).2⟩
theorem own_shapeF {w : World} {base : Nat} {v : Value} {Y : List Fr} (h : OwnG 88 5 cF w base v Y) : ∃ A c, v = .slice A Y.length c ∧ (A = none ∨ ∃ b, A = some ⟨b, 0, none⟩) := by
  rcases h.2 with ⟨hv, hn⟩ | ⟨b, cap, cur, hv, -⟩
  · exact ⟨none, 0, by rw [hv, hn], .inl rfl⟩
  · exact ⟨_, cap, hv, .inr ⟨b, rfl⟩⟩
/-- What stands between the rounds. -/
structure On (w : World) (wd wt : Int) (gr : Nat) (wr : World) (j E p g : Nat) (S : Sn) (R : Rv) (A : Option Addr) (c : Nat) (Y : List Fr) (A1 : Option Addr) (c1 : Nat) (V : List Fr) (A2 : Option Addr) (c2 : Nat) : Prop where
  m : Rnd (E : Int) (p : Int) wd wt S R
  k : WkE w wr g gr S R A c
  y : OwnF wr w.heap.size A1 c1 Y
  v : OwnF wr w.heap.size A2 c2 V
  ne : ∀ b, A1 = some ⟨b, 0, none⟩ → A2 ≠ some ⟨b, 0, none⟩
  yo : WayOk (E : Int) (p : Int) Y
  vo : WordsOk R.l V
  e0 : 1 ≤ E
  e1 : E ≤ j + 1
  p1 : p ≤ j
  yl : Y.length ≤ 64 * j
  vl : V.length ≤ j
section
variable {w : World} {wd wt : Int} {gr : Nat} {wr w' : World} {j E p g : Nat} {S : Sn} {R : Rv} {A : Option Addr} {c : Nat} {Y : List Fr} {A1 : Option Addr} {c1 : Nat} {V : List Fr} {A2 : Option Addr} {c2 : Nat}
theorem frame_tw {Y : List Fr} {A1 : Option Addr} {c1 base : Nat} (h : OwnF wr base A1 c1 Y) (k : TW wr w') : OwnF w' base A1 c1 Y := own_tw h k (by decide) (by decide) (by decide)
theorem On.more (h : On w wd wt gr wr j E p g S R A c Y A1 c1 V A2 c2) (b : Below wr.heap.size wr w') : On w wd wt gr w' j E p g S R A c Y A1 c1 V A2 c2 :=
  ⟨h.m, h.k.more b, h.y.below b, h.v.below b, h.ne, h.yo, h.vo, h.e0, h.e1, h.p1, h.yl, h.vl⟩
theorem On.next (h : On w wd wt gr wr j E p g S R A c Y A1 c1 V A2 c2) : On w wd wt gr wr (j + 1) E p g S R A c Y A1 c1 V A2 c2 :=
  ⟨h.m, h.k, h.y, h.v, h.ne, h.yo, h.vo, h.e0, by have := h.e1; omega, by have := h.p1; omega, by have := h.yl; omega, by have := h.vl; omega⟩
theorem On.step (h : On w wd wt gr wr j E p g S R A c Y A1 c1 V A2 c2) {S' : Sn} {R' : Rv} {A' : Option Addr} {c' : Nat} (k : WkE w w' g gr S' R' A' c') (t : TW wr w') (m : Rnd (E : Int) (p : Int) wd wt S' R') (hl : R.l ≤ R'.l) : On w wd wt gr w' j E p g S' R' A' c' Y A1 c1 V A2 c2 :=
  ⟨m, k, frame_tw h.y t, frame_tw h.v t, h.ne, h.yo, h.vo.le hl, h.e0, h.e1, h.p1, h.yl, h.vl⟩
end
end Go.Proofs.Ytbomlapmoiamgaa.hop
