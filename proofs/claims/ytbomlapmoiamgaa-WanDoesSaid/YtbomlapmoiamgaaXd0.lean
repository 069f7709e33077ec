/-
  Two networks side by side: the program's and the document's.
-/
import Derived.Test.YtbomlapmoiamgaaXw3
import Derived.Test.YtbomlapmoiamgaaWm1
import Derived.Test.YtbomlapmoiamgaaWfr
import Derived.Test.YtbomlapmoiamgaaWop
import Derived.ChangeKeysEq
import Derived.Laws.StructEq
set_option linter.unusedSimpArgs false
set_option linter.unusedVariables false
namespace Go.Proofs.Ytbomlapmoiamgaa.wan
open Go.ChangeShapes Go.WideShapes Go.ChangeAt Go.RowKit
open Go.Proofs.Ytbomlapmoiamgaa.opened Go.Proofs.Ytbomlapmoiamgaa.block Go.Proofs.Ytbomlapmoiamgaa.words Go.Proofs.Ytbomlapmoiamgaa.region
theorem fieldsLr : (Try.prog.fieldsOf 36).toList.map (fun f => (f.name == "_", f.type, f.offset)) = [(false, 3, 0), (false, 3, 1), (false, 9, 2)] := by kernel_rfl
theorem namesLr : ∃ f g h : Field, (Try.prog.fieldsOf 36).toList = [f, g, h] ∧ (f.name ≠ "_" ∧ f.type = 3 ∧ f.offset = 0) ∧ (g.name ≠ "_" ∧ g.type = 3 ∧ g.offset = 1) ∧ (h.name ≠ "_" ∧ h.type = 9 ∧ h.offset = 2) := by
  have k := fieldsLr
  match hq : (Try.prog.fieldsOf 36).toList with
  | [f, g, h] =>
    rw [hq] at k
    simp at k
    obtain ⟨⟨a1, a2, a3⟩, ⟨b1, b2, b3⟩, c1, c2, c3⟩ := k
    exact ⟨f, g, h, rfl, ⟨a1, a2, a3⟩, ⟨b1, b2, b3⟩, ⟨c1, c2, c3⟩⟩
  | [] => rw [hq] at k; simp at k
  | [_] => rw [hq] at k; simp at k
  | [_, _] => rw [hq] at k; simp at k
  | _ :: _ :: _ :: _ :: _ => rw [hq] at k; simp at k
theorem descLr : Try.prog.underlying 36 = some (.struct (Try.prog.fieldsOf 36)) := by kernel_rfl
theorem stoodLr : Try.prog.stoodInHeld 36 = false := by kernel_rfl
theorem plainLI : Try.prog.plainKey 3 = true := by kernel_rfl
theorem plainLS : Try.prog.plainKey 9 = true := by kernel_rfl
theorem guardLr : Try.prog.eqGuardType Try.prog.depth 36 = false := by kernel_rfl
set_option maxRecDepth 100000 in
theorem run_neL (x : Lt) (w : World) : (binOp .neq 36 (.agg (cL x).toArray) (.agg (cL x).toArray)).run Try.prog w = .ok (.bool false) w := by
  obtain ⟨f, g, h, hl, ⟨f1, f2, f3⟩, ⟨g1, g2, g3⟩, h1, h2, h3⟩ := namesLr
  have k : (Op.equalIn 10000 36 (.agg (cL x).toArray) (.agg (cL x).toArray)).run Try.prog w = .ok true w := by
    rw [run_equalIn_struct w 9999 36 _ _ descLr stoodLr, hl]
    simp only [Op.eqFields, f1, g1, h1, f2, g2, h2, f3, g3, h3, ne_eq, not_false_eq_true, if_true, Sem.run_bind]
    rw [run_part_plain w plainLI (v := .int .i64 x.f) (by simp [cL])]
    simp only [Result.andThen_ok]
    rw [run_part_plain w plainLI (v := .int .i64 x.f) (by simp [cL])]
    simp only [Result.andThen_ok]
    rw [run_equalIn_int w 9998 3 .i64 .i64 _ _ Try.underlying3]
    simp only [Result.andThen_ok, beq_self_eq_true, Bool.not_true, Bool.false_eq_true, if_false, Sem.run_bind]
    rw [run_part_plain w plainLI (v := .int .i64 x.t) (by simp [cL])]
    simp only [Result.andThen_ok]
    rw [run_part_plain w plainLI (v := .int .i64 x.t) (by simp [cL])]
    simp only [Result.andThen_ok]
    rw [run_equalIn_int w 9998 3 .i64 .i64 _ _ Try.underlying3]
    simp only [Result.andThen_ok, beq_self_eq_true, Bool.not_true, Bool.false_eq_true, if_false, Sem.run_bind]
    rw [run_part_plain w plainLS (v := sV x.s) (by simp [cL])]
    simp only [Result.andThen_ok]
    rw [run_part_plain w plainLS (v := sV x.s) (by simp [cL])]
    simp only [Result.andThen_ok]
    rw [run_equalIn_string w 9998 9 _ _ Try.underlying9]
    simp
  rw [run_neq_struct, k]
  rfl
abbrev PR (B : Nat) (w : World) (g : Nat) (W : Wn) : Prop := WanP 49 36 B w g W
abbrev QR (B : Nat) (w w' : World) : Prop := WB 49 36 B w w'
theorem WanE.wb {tw tl tw' tl' : TypeId} {B B' g : Nat} {W : Wn} {A : Option Addr} {c : Nat} {w w' : World} (h : WanE tw tl B w g W A c) (k : WB tw' tl' B' w w') (h1 : tw ≠ tw') (h2 : tw ≠ tl') (h3 : tl ≠ tw') (h4 : tl ≠ tl') : WanE tw tl B w' g W A c := by
  refine ⟨Whole.wb h.cell k h1 h2, ⟨h.row.1, ?_⟩, h.low⟩
  rcases h.row.2 with hn | ⟨b, cap, cur, hv, hb, hh, rest⟩
  · exact .inl hn
  · exact .inr ⟨b, cap, cur, hv, hb, k.keep b _ hh (not_wobj h3 h4), rest⟩
theorem PP.wb {B B' g : Nat} {W : Wn} {w w' : World} (h : PP B w g W) (k : QR B' w w') : PP B w' g W := by
  obtain ⟨A, c, h⟩ := h
  exact ⟨A, c, h.wb k (by decide) (by decide) (by decide) (by decide)⟩
theorem PR.wb {B B' g : Nat} {W : Wn} {w w' : World} (h : PR B w g W) (k : QQ B' w w') : PR B w' g W := by
  obtain ⟨A, c, h⟩ := h
  exact ⟨A, c, h.wb k (by decide) (by decide) (by decide) (by decide)⟩
/-- Nothing but blocks of networks has turned. -/
structure WBB (B : Nat) (w w' : World) : Prop where
  below : Below B w w'
  keep : ∀ (k : Nat) (o : Obj), w.heap[k]? = some o → ¬ WObj 94 34 o → ¬ WObj 49 36 o → w'.heap[k]? = some o
theorem WBB.p {B : Nat} {w w' : World} (h : QQ B w w') : WBB B w w' := ⟨h.below, fun k o h1 h2 _ => h.keep k o h1 h2⟩
theorem WBB.r {B : Nat} {w w' : World} (h : QR B w w') : WBB B w w' := ⟨h.below, fun k o h1 _ h3 => h.keep k o h1 h3⟩
theorem WBB.trans {B : Nat} {a b c : World} (h : WBB B a b) (k : WBB B b c) : WBB B a c := ⟨h.below.trans k.below, fun j o h1 h2 h3 => k.keep j o (h.keep j o h1 h2 h3) h2 h3⟩
theorem WBB.refl (B : Nat) (w : World) : WBB B w w := ⟨Below.refl _ _, fun _ _ h _ _ => h⟩
theorem WBB.later {B : Nat} {a b c : World} (h : WBB B a b) (hb : Below b.heap.size b c) (hB : B ≤ b.heap.size) : WBB B a c := h.trans ⟨hb.mono hB, fun k o h1 _ _ => (hb.block k (Array.getElem?_eq_some_iff.1 h1).1).trans h1⟩
theorem Whole.wbb {B : Nat} {w w' : World} {g : Nat} {t : TypeId} {cs : Array Value} (h : Whole w g t cs) (k : WBB B w w') (h1 : t ≠ 94) (h2 : t ≠ 34) (h3 : t ≠ 49) (h4 : t ≠ 36) : Whole w' g t cs := k.keep g _ h (not_wobj h1 h2) (not_wobj h3 h4)
section
variable {B g : Nat} {W : Wn} {w : World}
theorem q_send (h : PR B w g W) (G : GoodW W) (hc : W.c < 1000000) (l : Lt) (hl : l.s.length ≤ 100000000) : Calls Try.prog 10 #[.pointer (some ⟨g, 0, none⟩), l.val] w fun x w' => x = .returned (.int .i64 (sendE W l)) ∧ PR B w' g (sendV W l) ∧ QR B w w' := by
  obtain ⟨A, c, h⟩ := h
  exact sendR_any h G hc l hl
theorem q_double (h : PR B w g W) (G : GoodW W) (i : Int) : Calls Try.prog 15 #[.pointer (some ⟨g, 0, none⟩), .int .i64 i] w fun x w' => x = .returned (.int .i64 (dblE W i)) ∧ PR B w' g (dblV W i) ∧ QR B w w' := by
  obtain ⟨A, c, h⟩ := h
  exact doubleR_any h G i
theorem q_take (h : PR B w g W) (G : GoodW W) (i : Int) : Calls Try.prog 12 #[.pointer (some ⟨g, 0, none⟩), .int .i64 i] w fun x w' => x = .returned (.tuple #[(atV W i).val, .int .i64 (atE W i)]) ∧ PR B w' g (takeV W i) ∧ QR B w w' := by
  obtain ⟨A, c, h⟩ := h
  exact takeR_any h G i
theorem q_cut (h : PR B w g W) (G : GoodW W) (hc : W.c + 96 ≤ 1000000) (a b : Int) (o : Bool) : Calls Try.prog 17 #[.pointer (some ⟨g, 0, none⟩), .int .i64 a, .int .i64 b, .bool o] w fun x w' => x = .returned (.int .i64 (cutE W a b)) ∧ PR B w' g (cutV W a b o) ∧ QR B w w' := by
  obtain ⟨A, c, h⟩ := h
  exact cutR_any h G hc a b o
theorem q_at (h : PR B w g W) (G : GoodW W) (i : Int) : Calls Try.prog 23 #[.pointer (some ⟨g, 0, none⟩), .int .i64 i] w fun e w' => e = .returned (.tuple #[(atV W i).val, .int .i64 (atE W i)]) ∧ Below w.heap.size w w' := by
  obtain ⟨A, c, h⟩ := h
  exact atR_any h G i
theorem q_out (h : PR B w g W) (G : GoodW W) (a b : Int) : Calls Try.prog 21 #[.pointer (some ⟨g, 0, none⟩), .int .i64 a, .int .i64 b] w fun e w' => e = .returned (.bool (outB W a b)) ∧ Below w.heap.size w w' := by
  obtain ⟨A, c, h⟩ := h
  exact outR_any h G a b
theorem r_at (h : PP B w g W) (G : GoodW W) (i : Int) : Calls Try.prog 22 #[.pointer (some ⟨g, 0, none⟩), .int .i64 i] w fun e w' => e = .returned (.tuple #[(atV W i).val, .int .i64 (atE W i)]) ∧ Below w.heap.size w w' := by
  obtain ⟨A, c, h⟩ := h
  exact at_any h G i
theorem r_out (h : PP B w g W) (G : GoodW W) (a b : Int) : Calls Try.prog 20 #[.pointer (some ⟨g, 0, none⟩), .int .i64 a, .int .i64 b] w fun e w' => e = .returned (.bool (outB W a b)) ∧ Below w.heap.size w w' := by
  obtain ⟨A, c, h⟩ := h
  exact out_any h G a b
theorem r_waits (h : PP B w g W) : Calls Try.prog 18 #[.pointer (some ⟨g, 0, none⟩)] w fun e w' => e = .returned (.int .i64 (W.L.length : Int)) ∧ Below w.heap.size w w' := by
  obtain ⟨A, c, h⟩ := h
  exact waits_any h
theorem r_lost (h : PP B w g W) (G : GoodW W) : Calls Try.prog 19 #[.pointer (some ⟨g, 0, none⟩)] w fun e w' => e = .returned (.int .i64 W.c) ∧ Below w.heap.size w w' := by
  obtain ⟨A, c, h⟩ := h
  exact lost_any h G
end
/-- How far it came: k acts; both networks are the same one. -/
structure Mw (k : Nat) (W : Wn) : Prop where
  good : GoodW W
  c : W.c ≤ 96 * k
structure Dw (w : World) (ga gb : Nat) (wr : World) (k : Nat) (W : Wn) : Prop where
  m : Mw k W
  p : PP w.heap.size wr ga W
  r : PR w.heap.size wr gb W
  h : Below w.heap.size w wr
section
variable {w : World} {ga gb : Nat} {wr w' : World} {k : Nat} {W V : Wn}
theorem Dw.more (h : Dw w ga gb wr k W) (hb : Below wr.heap.size wr w') : Dw w ga gb w' k W := ⟨h.m, h.p.below hb, h.r.below hb, h.h.trans (hb.mono h.h.size)⟩
theorem Mw.of {S : List Lt} {a b r : Int} (h : Cnt k W S a b r) : Mw k W := ⟨h.good, h.c⟩
theorem Mw.more (h : Mw k W) : Mw (k + 1) W := ⟨h.good, by have := h.c; omega⟩
theorem Mw.lay (h : Mw k W) (l : Lt) : Mw k (layV W l) := by
  refine ⟨good_lay h.good l, ?_⟩
  unfold layV
  split
  · exact h.c
  · exact h.c
theorem Mw.send (h : Mw k W) (hk : k < 1000) (l : Lt) : Mw (k + 1) (sendV W l) := by
  have hc := h.c
  have hc0 := h.good.c0
  have hl : Mw (k + 1) { W with c := W.c + 1 } := ⟨good_lost h.good (by omega) (by omega), by show W.c + 1 ≤ _; omega⟩
  unfold sendV
  split
  · split
    · exact h.more
    · split
      · exact hl
      · split
        · exact hl
        · exact (h.lay l).more
  · exact h.more
theorem Mw.double (h : Mw k W) (i : Int) : Mw (k + 1) (dblV W i) := by
  unfold dblV
  split
  · exact h.more
  · exact (h.lay _).more
theorem Mw.take (h : Mw k W) (i : Int) : Mw (k + 1) (takeV W i) := by
  unfold takeV
  split
  · exact h.more
  · refine ⟨⟨h.good.n0, h.good.n1, h.good.o, ?_, h.good.c0, h.good.c1⟩, by have := h.c; show W.c ≤ _; omega⟩
    show (W.L.eraseIdx i.toNat).length ≤ 96
    have h1 := h.good.l
    have := List.length_eraseIdx_le W.L i.toNat
    omega
theorem Mw.cut (h : Mw k W) (hk : k < 1000) (x y : Int) (o : Bool) : Mw (k + 1) (cutV W x y o) := by
  have hc := h.c
  have hc0 := h.good.c0
  have hl := h.good.l
  unfold cutV
  split
  · have hO : (W.O.set (x.toNat * 16 + y.toNat) o).length = 256 := by rw [List.length_set]; exact h.good.o
    split
    · have hfl : (notP (pL x y) W.L).length ≤ W.L.length := List.length_filter_le _ _
      have hln : (lostN { W with O := W.O.set (x.toNat * 16 + y.toNat) o } x y : Nat) = W.L.length - (notP (pL x y) W.L).length := rfl
      refine ⟨⟨h.good.n0, h.good.n1, hO, ?_, ?_, ?_⟩, ?_⟩
      · show (notP (pL x y) W.L).length ≤ 96
        omega
      · show 0 ≤ W.c + (lostN _ x y : Nat)
        omega
      · show W.c + (lostN { W with O := W.O.set (x.toNat * 16 + y.toNat) o } x y : Nat) ≤ 1000000
        rw [hln]
        omega
      · show W.c + (lostN { W with O := W.O.set (x.toNat * 16 + y.toNat) o } x y : Nat) ≤ _
        rw [hln]
        omega
    · exact ⟨⟨h.good.n0, h.good.n1, hO, hl, hc0, h.good.c1⟩, by show W.c ≤ _; omega⟩
  · exact h.more
end
end Go.Proofs.Ytbomlapmoiamgaa.wan
