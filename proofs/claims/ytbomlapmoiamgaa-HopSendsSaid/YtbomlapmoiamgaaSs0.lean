/-
  Two senders side by side: the program's and the document's.
-/
import Derived.Test.YtbomlapmoiamgaaSr5
import Derived.Test.YtbomlapmoiamgaaHp5
import Derived.Test.YtbomlapmoiamgaaHor
import Derived.Deep.Cut
set_option linter.unusedSimpArgs false
set_option linter.unusedVariables false
namespace Go.Proofs.Ytbomlapmoiamgaa.hop
open Go.ChangeShapes Go.WideShapes Go.ChangeAt Go.RowKit
open Go.Proofs.Ytbomlapmoiamgaa.opened Go.Proofs.Ytbomlapmoiamgaa.block Go.Proofs.Ytbomlapmoiamgaa.words Go.Proofs.Ytbomlapmoiamgaa.region
open Go.Proofs.Ytbomlapmoiamgaa.wan (WB WObj not_wobj)
abbrev WH (B : Nat) (w w' : World) : Prop := WB 99 85 B w w'
def SP (B : Nat) (w : World) (g : Nat) (S : Sn) : Prop := ∃ A c, SnE B w g S A c
section
variable {w w' : World} {B B' g : Nat} {S : Sn} {A : Option Addr} {c : Nat} {v : Value}
theorem sn_wb (h : SnE B w g S A c) (t : TurnS w w' (SnS g A)) : WH B w w' :=
  ⟨t.below h.le fun k e => (h.sns e).1, fun k o ho hn => by
    rw [t.block k (Array.getElem?_eq_some_iff.1 ho).1 fun e => ?_]
    · exact ho
    · obtain ⟨cs, hx | hx⟩ := h.ty e
      · exact hn ⟨_, _, .inl (Option.some.inj (ho.symm.trans hx))⟩
      · exact hn ⟨_, _, .inr (Option.some.inj (ho.symm.trans hx))⟩⟩
theorem SP.wr (h : SP B w g S) (k : WR B' w w') : SP B w' g S := by
  obtain ⟨A, c, h⟩ := h
  refine ⟨A, c, k.keep g _ h.cell (not_wobj (by decide) (by decide)), ⟨h.row.1, ?_⟩, h.low⟩
  rcases h.row.2 with hn | ⟨b, cap, cur, hv, hb, hh, rest⟩
  · exact .inl hn
  · exact .inr ⟨b, cap, cur, hv, hb, k.keep b _ hh (not_wobj (by decide) (by decide)), rest⟩
theorem RnP.wh (h : RnP B w g S) (k : WH B' w w') : RnP B w' g S := by
  obtain ⟨v, h⟩ := h
  refine ⟨v, k.keep g _ h.cell (not_wobj (by decide) (by decide)), h.row.same fun q e => ?_, h.low⟩
  obtain ⟨-, cur, hc⟩ := h.row.block e
  exact (k.keep q _ hc (not_wobj (by decide) (by decide))).trans hc.symm
theorem SP.below (h : SP B w g S) (hb : Below w.heap.size w w') : SP B w' g S := by
  obtain ⟨A, c, h⟩ := h
  exact ⟨A, c, h.below hb⟩
theorem s_put (h : SP B w g S) (G : GoodS S) (t : Bs) (htl : t.length ≤ 140737488351232) : Calls Try.prog 27 #[.pointer (some ⟨g, 0, none⟩), sV t] w fun e w' => e = .returned (.tuple #[.int .i64 (putN S t), .int .i64 (putE S t)]) ∧ SP B w' g (putV S t) ∧ WH B w w' := by
  obtain ⟨A, c, h⟩ := h
  refine (put_any h G t htl).mono ?_
  rintro e w' ⟨rfl, A', c', h1, h2⟩
  exact ⟨rfl, ⟨A', c', h1⟩, sn_wb h h2⟩
theorem s_acked (h : SP B w g S) (G : GoodS S) (e n : Int) : Calls Try.prog 29 #[.pointer (some ⟨g, 0, none⟩), .int .i64 e, .int .i64 n] w fun x w' => x = .returned (.bool (ackB S e n)) ∧ SP B w' g (ackV S e n) ∧ WH B w w' := by
  obtain ⟨A, c, h⟩ := h
  refine (acked_any h G e n).mono ?_
  rintro e w' ⟨rfl, h1, h2⟩
  exact ⟨rfl, ⟨A, c, h1⟩, sn_wb h h2⟩
theorem s_tick (h : SP B w g S) (G : GoodS S) : Calls Try.prog 31 #[.pointer (some ⟨g, 0, none⟩)] w fun e w' => e = .returned (.tuple #[]) ∧ SP B w' g (tickV S) ∧ WH B w w' := by
  obtain ⟨A, c, h⟩ := h
  refine (tick_any h G).mono ?_
  rintro e w' ⟨rfl, h1, h2⟩
  exact ⟨rfl, ⟨A, c, h1⟩, sn_wb h h2⟩
theorem s_out (h : SP B w g S) (G : GoodS S) : Calls Try.prog 35 #[.pointer (some ⟨g, 0, none⟩)] w fun e w' => ∃ A2 c2, e = .returned (.slice A2 (outL S).length c2) ∧ OwnG 85 2 cI w' w.heap.size (.slice A2 (outL S).length c2) (outL S) ∧ SP B w' g (outV S) ∧ WH B w w' := by
  obtain ⟨A, c, h⟩ := h
  refine (out_any h G).mono ?_
  rintro e w' ⟨A2, c2, rfl, h0, h1, h2⟩
  exact ⟨A2, c2, rfl, h0, ⟨A, c, h1⟩, sn_wb h h2⟩
theorem s_state (h : SP B w g S) (G : GoodS S) : Calls Try.prog 37 #[.pointer (some ⟨g, 0, none⟩)] w fun e w' => e = .returned (.tuple #[.int .i64 S.a, .int .i64 (nextV S), .int .i64 S.L.length]) ∧ Below w.heap.size w w' := by
  obtain ⟨A, c, h⟩ := h
  exact state_any h G
theorem q_put (h : RnP B w g S) (G : GoodS S) (t : Bs) : Calls Try.prog 28 #[.pointer (some ⟨g, 0, none⟩), sV t] w fun e w' => e = .returned (.tuple #[.int .i64 (putN S t), .int .i64 (putE S t)]) ∧ RnP B w' g (putV S t) ∧ WR B w w' := by
  obtain ⟨v, h⟩ := h
  exact putR_any h G t
theorem q_acked (h : RnP B w g S) (G : GoodS S) (e n : Int) : Calls Try.prog 30 #[.pointer (some ⟨g, 0, none⟩), .int .i64 e, .int .i64 n] w fun x w' => x = .returned (.bool (ackB S e n)) ∧ RnP B w' g (ackV S e n) ∧ WR B w w' := by
  obtain ⟨v, h⟩ := h
  exact ackedR_any h G e n
theorem q_tick (h : RnP B w g S) (G : GoodS S) : Calls Try.prog 32 #[.pointer (some ⟨g, 0, none⟩)] w fun e w' => e = .returned (.tuple #[]) ∧ RnP B w' g (tickV S) ∧ WR B w w' := by
  obtain ⟨v, h⟩ := h
  refine (tickR_any h G).mono ?_
  rintro e w' ⟨rfl, h1, h2⟩
  exact ⟨rfl, ⟨v, h1⟩, h2⟩
theorem q_out (h : RnP B w g S) (G : GoodS S) : Calls Try.prog 36 #[.pointer (some ⟨g, 0, none⟩)] w fun e w' => ∃ A2 c2, e = .returned (.slice A2 (outL S).length c2) ∧ OwnG 101 2 cI w' w.heap.size (.slice A2 (outL S).length c2) (outL S) ∧ RnP B w' g (outV S) ∧ WR B w w' ∧ TurnS w w' (fun k => k = g) := by
  obtain ⟨v, h⟩ := h
  exact outR_any h G
theorem q_next (h : RnP B w g S) (G : GoodS S) : Calls Try.prog 38 #[.pointer (some ⟨g, 0, none⟩)] w fun e w' => e = .returned (.int .i64 (nextV S)) ∧ Below w.heap.size w w' := by
  obtain ⟨v, h⟩ := h
  exact nextR_any h G
theorem own_side {z : Nat} {v : Value} {N : List It} (h : OwnG 101 2 cI w z v N) (hr : RnP B w g S) (t : TurnS w w' (fun k => k = g)) : OwnG 101 2 cI w' z v N := by
  obtain ⟨u, hr⟩ := hr
  refine ⟨h.1, ?_⟩
  rcases h.2 with hn | ⟨b, cap, cur, hv, hb, hh, rest⟩
  · exact .inl hn
  · exact .inr ⟨b, cap, cur, hv, hb, (t.block b (Array.getElem?_eq_some_iff.1 hh).1 (obj_ne hh hr.cell (ty_ne (by decide)))).trans hh, rest⟩
end
/-- Nothing but blocks of senders has turned. -/
structure W2 (B : Nat) (w w' : World) : Prop where
  below : Below B w w'
  keep : ∀ (k : Nat) (o : Obj), w.heap[k]? = some o → ¬ WObj 99 85 o → ¬ WObj 75 101 o → w'.heap[k]? = some o
theorem W2.p {B : Nat} {w w' : World} (h : WH B w w') : W2 B w w' := ⟨h.below, fun k o h1 h2 _ => h.keep k o h1 h2⟩
theorem W2.r {B : Nat} {w w' : World} (h : WR B w w') : W2 B w w' := ⟨h.below, fun k o h1 _ h3 => h.keep k o h1 h3⟩
theorem W2.trans {B : Nat} {a b c : World} (h : W2 B a b) (k : W2 B b c) : W2 B a c := ⟨h.below.trans k.below, fun j o h1 h2 h3 => k.keep j o (h.keep j o h1 h2 h3) h2 h3⟩
theorem W2.refl (B : Nat) (w : World) : W2 B w w := ⟨Below.refl _ _, fun _ _ h _ _ => h⟩
theorem W2.later {B : Nat} {a b c : World} (h : W2 B a b) (hb : Below b.heap.size b c) (hB : B ≤ b.heap.size) : W2 B a c := h.trans ⟨hb.mono hB, fun k o h1 _ _ => (hb.block k (Array.getElem?_eq_some_iff.1 h1).1).trans h1⟩
theorem whole_w2 {B : Nat} {w w' : World} {g : Nat} {t : TypeId} {cs : Array Value} (h : Whole w g t cs) (k : W2 B w w') (h1 : t ≠ 99) (h2 : t ≠ 85) (h3 : t ≠ 75) (h4 : t ≠ 101) : Whole w' g t cs := k.keep g _ h (not_wobj h1 h2) (not_wobj h3 h4)
/-- Both senders are the same one. -/
structure Ds (w : World) (ga gb : Nat) (wr : World) (S : Sn) : Prop where
  m : GoodS S
  p : SP w.heap.size wr ga S
  r : RnP w.heap.size wr gb S
  h : Below w.heap.size w wr
theorem Ds.more {w wr w' : World} {ga gb : Nat} {S : Sn} (h : Ds w ga gb wr S) (hb : Below wr.heap.size wr w') : Ds w ga gb w' S := ⟨h.m, h.p.below hb, h.r.below hb, h.h.trans (hb.mono h.h.size)⟩
def TelS (B g : Nat) (V : Sn) (e : Bool) (u : Value) (w : World) : Prop := u = .bool e ∧ SP B w g V
def TelQ (B g : Nat) (V : Sn) (e : Bool) (u : Value) (w : World) : Prop := u = .bool e ∧ RnP B w g V
theorem keeps_telS (B g : Nat) (V : Sn) (e : Bool) : Keeps (TelS B g V e) := fun _ _ _ hb ⟨h1, h2⟩ => ⟨h1, h2.below hb⟩
theorem keeps_telQ (B g : Nat) (V : Sn) (e : Bool) : Keeps (TelQ B g V e) := fun _ _ _ hb ⟨h1, h2⟩ => ⟨h1, h2.below hb⟩
end Go.Proofs.Ytbomlapmoiamgaa.hop
