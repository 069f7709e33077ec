/-
  What turns: TurnS (of what was there nothing has turned but blocks of S). It names no number of a program.
-/
import Derived.Test.YtbomlapmoiamgaaOg
import Derived.Test.YtbomlapmoiamgaaWh
set_option linter.unusedSimpArgs false
set_option linter.unusedVariables false
namespace Go.Proofs.Ytbomlapmoiamgaa.region
open Go.ChangeShapes Go.WideShapes Go.ChangeAt Go.RowKit
open Go.Proofs.Ytbomlapmoiamgaa.opened Go.Proofs.Ytbomlapmoiamgaa.block
/-- Of what was there nothing has turned but blocks of S. -/
structure TurnS (w w' : World) (S : Nat → Prop) : Prop where
  os : w'.os = w.os
  tape : w'.tape = w.tape
  output : w'.output = w.output
  size : w.heap.size ≤ w'.heap.size
  block : ∀ k, k < w.heap.size → ¬ S k → w'.heap[k]? = w.heap[k]?
theorem TurnS.refl (w : World) (S : Nat → Prop) : TurnS w w S := ⟨rfl, rfl, rfl, Nat.le_refl _, fun _ _ _ => rfl⟩
theorem TurnS.below {w w' : World} {S : Nat → Prop} (h : TurnS w w' S) {B : Nat} (hB : B ≤ w.heap.size) (hs : ∀ k, S k → B ≤ k) : Below B w w' :=
  ⟨h.os, h.tape, h.output, h.size, fun i hi => h.block i (by omega) fun hS => by have := hs i hS; omega⟩
theorem TurnS.later {a b c : World} {S : Nat → Prop} (h : TurnS a b S) (k : Below b.heap.size b c) : TurnS a c S :=
  ⟨k.os.trans h.os, k.tape.trans h.tape, k.output.trans h.output, Nat.le_trans h.size k.size, fun j hj hn => (k.block j (Nat.lt_of_lt_of_le hj h.size)).trans (h.block j hj hn)⟩
theorem TurnS.grown {a b c : World} {S : Nat → Prop} {row : Option Nat} (h : TurnS a b S) (k : b.grownBy c row) (hs : ∀ j, row = some j → S j ∨ a.heap.size ≤ j) : TurnS a c S :=
  ⟨k.os.trans h.os, k.tape.trans h.tape, k.output.trans h.output, Nat.le_trans h.size k.size, fun j hj hn => (k.block j (Nat.lt_of_lt_of_le hj h.size) fun e => by
    rcases hs j e.symm with h1 | h1
    · exact hn h1
    · omega).trans (h.block j hj hn)⟩
theorem turnS_grown {w w' : World} {row : Option Nat} (h : w.grownBy w' row) {S : Nat → Prop} (hs : ∀ k, row = some k → S k) : TurnS w w' S :=
  (TurnS.refl w S).grown h fun j e => .inl (hs j e)
theorem TurnS.of {w w' : World} {S : Nat → Prop} (h : Below w.heap.size w w') : TurnS w w' S := ⟨h.os, h.tape, h.output, h.size, fun k hk _ => h.block k hk⟩
theorem TurnS.trans {a b c : World} {S : Nat → Prop} (h : TurnS a b S) (k : TurnS b c S) : TurnS a c S :=
  ⟨k.os.trans h.os, k.tape.trans h.tape, k.output.trans h.output, Nat.le_trans h.size k.size, fun j hj hn => (k.block j (Nat.lt_of_lt_of_le hj h.size) hn).trans (h.block j hj hn)⟩
theorem TurnS.mono {a b : World} {S S' : Nat → Prop} (h : TurnS a b S) (k : ∀ j, j < a.heap.size → S j → S' j) : TurnS a b S' :=
  ⟨h.os, h.tape, h.output, h.size, fun j hj hn => h.block j hj fun hs => hn (k j hj hs)⟩
theorem OwnG.shapeT {α : Type} {m : Nat} {f : α → List Value} {T : TypeId} {w : World} {base : Nat} {v : Value} {N : List α} (h : OwnG T m f w base v N) {k : Nat} (e : v.ownBlock = some k) : ∃ cur, w.heap[k]? = some (.cells cur T (0, 0)) := by
  rcases h.2 with ⟨rfl, _⟩ | ⟨g, cap, cur, rfl, hb, hh, _⟩
  · simp [Value.ownBlock] at e
  · obtain rfl : g = k := by simpa [Value.ownBlock] using e
    exact ⟨cur, hh⟩
theorem obj_ne {w : World} {a b : Nat} {o1 o2 : Obj} (h1 : w.heap[a]? = some o1) (h2 : w.heap[b]? = some o2) (hne : o1 ≠ o2) : a ≠ b := by
  rintro rfl
  exact hne (Option.some.inj (h1.symm.trans h2))
theorem ty_ne {x y : Array Value} {t u : TypeId} {p q : Nat × Nat} (h : t ≠ u) : (.cells x t p : Obj) ≠ .cells y u q := by
  intro e
  injection e with _ e
  exact h e
end Go.Proofs.Ytbomlapmoiamgaa.region
