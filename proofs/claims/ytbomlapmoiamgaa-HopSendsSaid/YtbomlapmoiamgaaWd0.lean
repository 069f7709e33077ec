/-
  A network as mathematics, and its block.
-/
import Derived.Test.YtbomlapmoiamgaaOs
import Derived.Test.YtbomlapmoiamgaaWh
import Derived.Test.YtbomlapmoiamgaaRt9
import Derived.Deep.QuietTactic
import Derived.BigQuiet
import Derived.StillTailTactics
import Derived.WalkLawsBesides
import Derived.Deep.Cut
import Derived.Test.YtbomlapmoiamgaaChecked
set_option linter.unusedSimpArgs false
set_option linter.unusedVariables false
namespace Go.Proofs.Ytbomlapmoiamgaa.wan
open Go.ChangeShapes Go.WideShapes Go.ChangeAt Go.RowKit
open Go.Proofs.Ytbomlapmoiamgaa.opened Go.Proofs.Ytbomlapmoiamgaa.block Go.Proofs.Ytbomlapmoiamgaa.words

structure Lt where
  f : Int
  t : Int
  s : Bs
deriving DecidableEq
def cL (l : Lt) : List Value := [.int .i64 l.f, .int .i64 l.t, sV l.s]
abbrev Lt.val (l : Lt) : Value := .agg #[.int .i64 l.f, .int .i64 l.t, sV l.s]
/-- The cells of a network. -/
def wanC (n : Int) (v : Value) (O : List Bool) (lost : Int) : Array Value := (([Value.int .i64 n, v] ++ O.map Value.bool) ++ [Value.int .i64 lost]).toArray
def O0 : List Bool := List.replicate 256 false
theorem wpBuilt {P : Program} {ops : Array Oper} {rest : List Oper} {o : Oper} {a : Act} {w : World} {Q : Exit → Act → World → Prop} (hg : o.guard = none) (t : TypeId) (parts : Array (Nat × Operand)) (ho : o.op = .build t parts) (cells : Array Value)
    (hf : P.built t (parts.map fun (i, x) => (i, a.eval x)).toList = some cells) (h : wpList P ops Q rest (a.put o.dst (.agg cells)) w) : wpList P ops Q (o :: rest) a w :=
  wpList_build hg t parts ho (by rw [hf]; rfl) (by rw [hf]; exact h)
section
variable {w : World}
set_option maxRecDepth 100000 in
set_option maxHeartbeats 1000000 in
theorem new_any (n : Int) (h0 : 2 ≤ n) (h1 : n ≤ 16) : Calls Try.prog 7 #[.int .i64 n] w fun e w' => e = .returned (.tuple #[.pointer (some ⟨w.heap.size, 0, none⟩), .int .i64 0]) ∧ w' = w.alloc (.cells (wanC n (.slice none 0 0) O0 0) 94) := by
  go_enter Try.func7, Try.ntmps7
  go_upto_region 3 with fail
  have hsz : Hid ((wanC n (.slice none 0 0) O0 0).size = 259) := Lib.hid (by simp [wanC, O0])
  obtain ⟨cs, hcs⟩ : ∃ cs, cs = wanC n (.slice none 0 0) O0 0 := ⟨_, rfl⟩
  have HC := Lib.hid hcs
  have HB : Hid (∀ x, Try.prog.built 94 [(0, .int .i64 n)] = some x ↔ x = cs) := Lib.hid fun x => by
    have : Try.prog.built 94 [(0, .int .i64 n)] = some (wanC n (.slice none 0 0) O0 0) := by kernel_rfl
    rw [this, hcs]
    constructor
    · intro h; exact (Option.some.inj h).symm
    · intro h; rw [h]
  clear hcs
  go_wp2_with (refine wpBuilt rfl 94 #[(0, .tmp 10)] rfl cs (by simpa [Act.eval] using (HB.out cs).2 rfl) ?_)
  go_ret2
  exact ⟨rfl, by rw [HC.out]⟩
end
end Go.Proofs.Ytbomlapmoiamgaa.wan
