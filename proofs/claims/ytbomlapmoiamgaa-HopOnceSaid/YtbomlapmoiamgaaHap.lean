/-
  append of a whole row to a row of one's own; rows of frames in a drawn region.
-/
import Derived.Test.YtbomlapmoiamgaaHo3
import Derived.Test.YtbomlapmoiamgaaFa
set_option linter.unusedSimpArgs false
set_option linter.unusedVariables false
namespace Go.Proofs.Ytbomlapmoiamgaa.hop
open Go.ChangeShapes Go.WideShapes Go.ChangeAt Go.RowKit
open Go.Proofs.Ytbomlapmoiamgaa.opened Go.Proofs.Ytbomlapmoiamgaa.block Go.Proofs.Ytbomlapmoiamgaa.words Go.Proofs.Ytbomlapmoiamgaa.region
def OwnPF (z : Nat) (N : List Fr) (u : Value) (w : World) : Prop := ∃ B c, u = .slice B N.length c ∧ OwnF w z B c N
theorem keeps_ownPF (z : Nat) (N : List Fr) : Keeps (OwnPF z N) := fun _ _ _ hb ⟨B, c, h1, h2⟩ => ⟨B, c, h1, h2.below hb⟩
theorem own0F (W : World) (z : Nat) (hz : z ≤ W.heap.size) : OwnF (W.alloc (.cells #[] 88)) z (some ⟨W.heap.size, 0, none⟩) 0 [] := ⟨rfl, .inr ⟨W.heap.size, 0, #[], rfl, hz, heap_new W _, Nat.le_refl _, by simp [maxLen], rfl, rfl⟩⟩
set_option maxRecDepth 100000 in
theorem slice_to (b n c k : Nat) (hk : k ≤ c) (W : World) : (Instr.sliceAt 81 (.slice (some ⟨b, 0, none⟩) n c) none (some (.int .i64 (k : Int))) none).run Try.prog W = .ok (.slice (some ⟨b, 0, none⟩) k c) W := by
  go_simp
set_option maxRecDepth 100000 in
theorem slice_from (b n c k : Nat) (hk : k ≤ n) (hn : n ≤ c) (W : World) : (Instr.sliceAt 81 (.slice (some ⟨b, 0, none⟩) n c) (some (.int .i64 (k : Int))) none none).run Try.prog W = .ok (.slice (if c = k then some ⟨b, 0, none⟩ else some ⟨b, k * 5, none⟩) (n - k) (c - k)) W := by
  have hkc : k ≤ c := by omega
  by_cases h : c = k
  · subst h
    go_simp
  · have h2 : k < c := by omega
    go_simp
def LoneU (x : Int) (u : Value) (w : World) : Prop := ∃ gx, u = .slice (some ⟨gx, 0, none⟩) 1 1 ∧ Whole w gx 5 #[.int .u8 x]
theorem keeps_loneU (x : Int) : Keeps (LoneU x) := fun _ _ _ hb ⟨g, h1, h2⟩ => ⟨g, h1, h2.below hb h2.inside⟩
theorem item_past {w w' : World} {b1 b2 : Nat} {v v' : Value} {N : List It} {N' : List Fr} (h : OwnG 85 2 cI w b1 v N) (ho : OwnG 88 5 cF w b2 v' N') (hg : w.grownBy w' v'.ownBlock) : OwnG 85 2 cI w' b1 v N :=
  h.past hg fun k e he => by
    obtain ⟨c1, h1⟩ := OwnG.shapeT ho e
    obtain ⟨c2, h2⟩ := OwnG.shapeT h he.symm
    exact obj_ne h1 h2 (ty_ne (by decide)) rfl
end Go.Proofs.Ytbomlapmoiamgaa.hop
namespace Go.Proofs.Ytbomlapmoiamgaa.hop
open Go.ChangeShapes Go.WideShapes Go.ChangeAt Go.RowKit
open Go.Proofs.Ytbomlapmoiamgaa.opened Go.Proofs.Ytbomlapmoiamgaa.block Go.Proofs.Ytbomlapmoiamgaa.words Go.Proofs.Ytbomlapmoiamgaa.region
set_option maxRecDepth 100000 in
theorem built_fr (e n : Int) : Try.prog.built 88 [(2, .int .i64 e), (3, .int .i64 n)] = some (cF ⟨e, n⟩).toArray := by kernel_rfl
theorem wpBuiltF {P : Program} {ops : Array Oper} {rest : List Oper} {o : Oper} {a : Act} {w : World} {Q : Exit → Act → World → Prop} (hg : o.guard = none) (t : TypeId) (parts : Array (Nat × Operand)) (ho : o.op = .build t parts) (cells : Array Value)
    (hf : P.built t (parts.map fun (i, x) => (i, a.eval x)).toList = some cells) (h : wpList P ops Q rest (a.put o.dst (.agg cells)) w) : wpList P ops Q (o :: rest) a w :=
  wpList_build hg t parts ho (by rw [hf]; rfl) (by rw [hf]; exact h)
end Go.Proofs.Ytbomlapmoiamgaa.hop
