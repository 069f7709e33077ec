/-
  What a round of HopOnce does: lemmas.
-/
import Derived.Test.YtbomlapmoiamgaaHo2
import Derived.Test.YtbomlapmoiamgaaWrite
set_option linter.unusedSimpArgs false
set_option linter.unusedVariables false
namespace Go.Proofs.Ytbomlapmoiamgaa.hop
open Go.ChangeShapes Go.WideShapes Go.ChangeAt Go.RowKit
open Go.Proofs.Ytbomlapmoiamgaa.opened Go.Proofs.Ytbomlapmoiamgaa.block Go.Proofs.Ytbomlapmoiamgaa.words Go.Proofs.Ytbomlapmoiamgaa.region Go.Proofs.Ytbomlapmoiamgaa.code
theorem byte_own (w : World) (g : Nat) (x : Int) (h0 : 0 ≤ x) (h1 : x ≤ 255) (h : Whole w g 5 #[.int .u8 x]) : (convert 86 9 (.slice (some ⟨g, 0, none⟩) 1 1)).run Try.prog w = .ok (.string ⟨(byteOf x).toArray⟩) w := by
  have hc : Value.int IntKind.u8 x = cell8 (UInt8.ofNat x.toNat) := by
    unfold cell8
    congr 1
    rw [UInt8.toNat_ofNat']
    omega
  refine string_of_own (P := Try.prog) (w := w) (base := 0) (e := 5) (n := 1) (l := byteOf x) Try.underlying86 Try.underlying5 Try.underlying9 ⟨rfl, .inr ⟨g, 1, #[.int .u8 x], rfl, Nat.zero_le _, h, Nat.le_refl _, by simp [maxLen], rfl, ?_⟩⟩
  rw [hc]
  rfl
theorem byte_conv (w : World) (x : Int) (h0 : 0 ≤ x) (h1 : x ≤ 255) : (convert 86 9 (.slice (some ⟨w.heap.size, 0, none⟩) 1 1)).run Try.prog (w.alloc (.cells #[.int .u8 x] 5)) = .ok (.string ⟨(byteOf x).toArray⟩) (w.alloc (.cells #[.int .u8 x] 5)) :=
  byte_own _ _ x h0 h1 (Whole.fresh w 5 #[.int .u8 x])
theorem put_a (S : Sn) (t : Bs) : (putV S t).a = S.a := by unfold putV; split <;> rfl
theorem put_ok {E p wd wt : Int} {S : Sn} (h : Sd E p wd wt S) (hp : p ≤ 1000000) (hl : S.L.length < 64) : putE S (byteOf (p + 1)) = 0 ∧ putN S (byteOf (p + 1)) = p + 1 ∧ Sd E (p + 1) wd wt (putV S (byteOf (p + 1))) := by
  rcases h.put hp with h1 | ⟨h1, -, -⟩
  · exact h1
  · exfalso
    have hnx : nextV S = p + 1 := by have := h.p; unfold nextV; omega
    unfold putE at h1
    rw [if_neg (by unfold byteOf; simp), if_neg (by rw [hnx]; omega)] at h1
    cases h1
theorem Rnd.ack {E p wd wt : Int} {S : Sn} {R : Rv} (h : Rnd E p wd wt S R) (e n : Int) (hn : n ≤ R.l) : Rnd E p wd wt (ackV S e n) R := by
  have h1 := h.r.lo; have h2 := h.r.a0
  refine ⟨h.s.ack e n, h.r.ack ?_ ?_⟩
  · rcases ack_cases S e n with ⟨-, -, h3, -, h4⟩ | ⟨-, h3, -⟩
    · omega
    · rw [h3]; omega
  · rcases ack_cases S e n with ⟨-, -, h3, -, h4⟩ | ⟨-, h3, -⟩
    · omega
    · rw [h3]; exact h1
section
variable {w : World} {wd wt : Int} {gr : Nat} {wr w' : World} {j E p g : Nat} {S : Sn} {R : Rv} {A : Option Addr} {c : Nat} {Y : List Fr} {A1 : Option Addr} {c1 : Nat} {V : List Fr} {A2 : Option Addr} {c2 : Nat}
theorem On.put (h : On w wd wt gr wr j E p g S R A c Y A1 c1 V A2 c2) {S' : Sn} {A' : Option Addr} {c' : Nat} (k : WkE w w' g gr S' R A' c') (t : TW wr w') (m : Sd (E : Int) ((p : Int) + 1) wd wt S') (ha : S'.a = S.a) : On w wd wt gr w' (j + 1) E (p + 1) g S' R A' c' Y A1 c1 V A2 c2 := by
  have hp : ((p + 1 : Nat) : Int) = (p : Int) + 1 := by omega
  have hr := h.m.r
  refine ⟨⟨by rw [hp]; exact m, ?_⟩, k, frame_tw h.y t, frame_tw h.v t, h.ne, h.yo.le (Int.le_refl _) (by omega), h.vo, h.e0, by have := h.e1; omega, by have := h.p1; omega, by have := h.yl; omega, by have := h.vl; omega⟩
  rw [ha, hp]
  exact ⟨hr.e0, hr.e1, hr.lo, by have := hr.hi; omega, hr.a0⟩
theorem WkE.grown {w0 : World} (h : WkE w0 wr g gr S R A c) {v : Value} {N : List Fr} {base : Nat} (ho : OwnG 88 5 cF wr base v N) (hb : w0.heap.size ≤ base) (hg : wr.grownBy w' v.ownBlock) : WkE w0 w' g gr S R A c := by
  have ht : TurnS wr w' (fun k => v.ownBlock = some k) := turnS_grown hg fun k e => e
  have hty : ∀ k, v.ownBlock = some k → ∃ cur, wr.heap[k]? = some (.cells cur 88 (0, 0)) := fun k e => OwnG.shapeT ho e
  refine ⟨h.s.turn ht fun k hk e => ?_, whole_turn h.r ht fun e => ?_, h.rb, h.below.grown hg (h.below.size) fun k e => Nat.le_trans hb (OwnG.above ho e)⟩
  · obtain ⟨cur, hx⟩ := hty k e
    obtain ⟨cs, hy | hy⟩ := h.s.ty hk
    · exact obj_ne hx hy (ty_ne (by decide)) rfl
    · exact obj_ne hx hy (ty_ne (by decide)) rfl
  · obtain ⟨cur, hx⟩ := hty _ e
    exact obj_ne hx h.r (ty_ne (by decide)) rfl
theorem block_of {A : Option Addr} {n c b : Nat} (e : (Value.slice A n c).ownBlock = some b) (hA : A = none ∨ ∃ b, A = some ⟨b, 0, none⟩) : A = some ⟨b, 0, none⟩ := by
  rcases hA with rfl | ⟨b', rfl⟩
  · simp [Value.ownBlock] at e
  · have : b' = b := by simpa [Value.ownBlock] using e
    rw [this]
theorem ownF_form {wr : World} {base : Nat} {A : Option Addr} {c : Nat} {Y : List Fr} (h : OwnF wr base A c Y) : A = none ∨ ∃ b, A = some ⟨b, 0, none⟩ := by
  obtain ⟨A', c', hv, hA⟩ := own_shapeF h
  injection hv with h1
  subst h1
  exact hA
theorem own_ne {A1 A2 : Option Addr} {n1 n2 c1 c2 : Nat} (h1 : A1 = none ∨ ∃ b, A1 = some ⟨b, 0, none⟩) (h2 : A2 = none ∨ ∃ b, A2 = some ⟨b, 0, none⟩) (hne : ∀ b, A1 = some ⟨b, 0, none⟩ → A2 ≠ some ⟨b, 0, none⟩) : ∀ k, (Value.slice A2 n2 c2).ownBlock = some k → some k ≠ (Value.slice A1 n1 c1).ownBlock := fun k e e2 => hne k (block_of e2.symm h1) (block_of e h2)
theorem On.word (h : On w wd wt gr wr j E p g S R A c Y A1 c1 V A2 c2) {y : Fr} (hy : y.n ≤ R.l) {g' cap' : Nat} (ho : OwnG 88 5 cF w' w.heap.size (.slice (some ⟨g', 0, none⟩) (V.length + 1) cap') (V ++ [y])) (hg : wr.grownBy w' (Value.slice A2 V.length c2).ownBlock)
    (hb : some g' = (Value.slice A2 V.length c2).ownBlock ∨ wr.heap.size ≤ g') : On w wd wt gr w' (j + 1) E p g S R A c Y A1 c1 (V ++ [y]) (some ⟨g', 0, none⟩) cap' := by
  have f1 := ownF_form h.y
  have f2 := ownF_form h.v
  have hl : (V ++ [y]).length = V.length + 1 := by simp
  refine ⟨h.m, h.k.grown h.v (Nat.le_refl _) hg, h.y.past hg (own_ne f1 f2 h.ne), by show OwnG _ _ _ _ _ (.slice _ (V ++ [y]).length _) _; rw [hl]; exact ho, ?_, h.yo, h.vo.snoc hy, h.e0, by have := h.e1; omega, by have := h.p1; omega, by have := h.yl; omega, by rw [hl]; have := h.vl; omega⟩
  rintro b rfl e
  injection e with e
  injection e with e
  subst e
  rcases hb with hb | hb
  · exact h.ne g' rfl (block_of hb.symm f2)
  · have := (own_flat h.y).2.1
    omega
theorem On.way (h : On w wd wt gr wr j E p g S R A c Y A1 c1 V A2 c2) {y : Fr} (hy : (1 ≤ y.e ∧ y.e ≤ E) ∧ (1 ≤ y.n ∧ y.n ≤ p)) (hyl : Y.length + 1 ≤ 64 * j) {g' cap' : Nat} (ho : OwnG 88 5 cF w' w.heap.size (.slice (some ⟨g', 0, none⟩) (Y.length + 1) cap') (Y ++ [y])) (hg : wr.grownBy w' (Value.slice A1 Y.length c1).ownBlock)
    (hb : some g' = (Value.slice A1 Y.length c1).ownBlock ∨ wr.heap.size ≤ g') : On w wd wt gr w' j E p g S R A c (Y ++ [y]) (some ⟨g', 0, none⟩) cap' V A2 c2 := by
  have f1 := ownF_form h.y
  have f2 := ownF_form h.v
  have hl : (Y ++ [y]).length = Y.length + 1 := by simp
  refine ⟨h.m, h.k.grown h.y (Nat.le_refl _) hg, by show OwnG _ _ _ _ _ (.slice _ (Y ++ [y]).length _) _; rw [hl]; exact ho, h.v.past hg (own_ne f2 f1 (fun b e2 e1 => h.ne b e1 e2)), ?_, h.yo.snoc hy, h.vo, h.e0, h.e1, h.p1, by rw [hl]; exact hyl, h.vl⟩
  intro b e e2
  injection e with e
  injection e with e
  subst e
  rcases hb with hb | hb
  · exact h.ne g' (block_of hb.symm f1) e2
  · rw [e2] at h
    have := (own_flat h.v).2.1
    omega
theorem On.cut (h : On w wd wt gr wr j E p g S R A c Y A1 c1 V A2 c2) (b : Below wr.heap.size wr w') (k : Nat) {B3 : Option Addr} {c3 : Nat} (ho : OwnF w' wr.heap.size B3 c3 (Y.take k ++ Y.drop (k + 1))) : On w wd wt gr w' j E p g S R A c (Y.take k ++ Y.drop (k + 1)) B3 c3 V A2 c2 := by
  have hm := h.more b
  have hle : (Y.take k ++ Y.drop (k + 1)).length ≤ Y.length := by rw [List.length_append, List.length_take, List.length_drop]; omega
  refine ⟨h.m, hm.k, own_lower ho (Nat.le_trans h.k.below.size (Nat.le_refl _)), hm.v, ?_, h.yo.cut k, h.vo, h.e0, h.e1, h.p1, Nat.le_trans hle h.yl, h.vl⟩
  rintro b' rfl e2
  rw [e2] at h
  have h1 := (own_flat h.v).2.1
  have h2 := (own_flat ho).1
  omega
end
end Go.Proofs.Ytbomlapmoiamgaa.hop
