/-
  append of any row to an empty one that was just made. It names no number of a program.
-/
import Derived.Test.YtkfjgmfokpgcbaaJAp
import Derived.ArgAppend
set_option linter.unusedSimpArgs false
set_option linter.unusedVariables false
namespace Go.Proofs.Ytkfjgmfokpgcbaa.region
open Go.RowKit Go.Proofs.Ytkfjgmfokpgcbaa.block
section
variable {P : Program}
theorem run_append_none (w : World) (t ty e : TypeId) (i : TypeInfo) (ht : P.underlying t = some (.slice e)) (hi : P.info? e = some i) (b : Addr) (A : Option Addr) (c : Nat) :
    (Builtin.append_ #[t, t] ty #[.slice (some b) 0 0, .slice A 0 c]).run P w = .ok (.slice (some b) 0 0) w := by
  cases A <;> simp [Builtin.append_, Builtin.lenOf, Builtin.firstCells, run_underlying ht, sizeOf, typeInfo, hi, storeCells, go_sem, Result.andThen]
/-- append of any row to an empty one that was just made. -/
theorem yields_copied {w : World} {o : Oper} {ρ : Operand → Value} {T : Value → World → Prop} (s x : Operand) (t : TypeId) (ho : o.op = .call { callee := .builtin .append, args := #[s, x], argTypes := #[t, t] })
    (e : TypeId) (i : TypeInfo) (z : Value) (size bytes : Nat) (ht : P.underlying t = some (.slice e)) (hi : P.info? e = some i) (hz : i.zero = some z)
    (hsize : i.size = size) (hby : i.bytes = bytes) (hzs : z.cells.size = size) (hsz : 0 < size)
    (b : Addr) (hs : ρ s = .slice (some b) 0 0) (A : Option Addr) (m c : Nat) (news : List Value) (hx : ρ x = .slice A m c) (hl : news.length = m * size)
    (hA : m ≠ 0 → ∃ ad, A = some ad ∧ ∀ j u, news[j]? = some u → w.cell? (ad.add j) = some u) (h63 : m ≤ maxLen) (hbytes : m * bytes ≤ 140737488355328)
    (h0 : m = 0 → T (.slice (some b) 0 0) w) (h : m ≠ 0 → ∀ (v' : Value) (w' : World), w'.ownsRow w.heap.size e size v' m news → Below w.heap.size w w' → T v' w') : Yields P o ρ w T := by
  by_cases hm : m = 0
  · subst hm
    refine .inl ⟨_, w, ?_, Below.refl _ _, h0 rfl⟩
    unfold execOp
    simp only [ho, resolve, invoke, builtin, Sem.run_bind, Sem.run_pure, Result.andThen_ok, List.map_toArray, List.map_cons, List.map_nil, hs, hx, run_append_none w t o.type e i ht hi b A c]
  · obtain ⟨ad, rfl, hc⟩ := hA hm
    obtain ⟨v', w', hr, h1, h2⟩ := run_append_arg_grows (P := P) w t o.type e i z size bytes ht hi hz hsize hby hzs hsz b 0 0 [] (by simp) (by intro j u hj; simp at hj) ad m c news hl hc (by omega) (by rw [Nat.zero_add]; exact h63) (by rw [Nat.zero_add]; exact hbytes)
    rw [Nat.zero_add, List.nil_append] at h1
    have hB : Below w.heap.size w w' := (Below.refl w.heap.size w).grown h2 (Nat.le_refl _) (fun k e => by cases e)
    refine .inl ⟨v', w', ?_, hB, h hm v' w' h1 hB⟩
    unfold execOp
    simp only [ho, resolve, invoke, builtin, Sem.run_bind, Sem.run_pure, Result.andThen_ok, List.map_toArray, List.map_cons, List.map_nil, hs, hx, hr]
end
end Go.Proofs.Ytkfjgmfokpgcbaa.region
