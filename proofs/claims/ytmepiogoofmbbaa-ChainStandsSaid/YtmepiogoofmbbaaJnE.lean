/-
  Mathematics of the joins; what an index and a load tell in a drawn region.
-/
import Derived.Test.YtmepiogoofmbbaaMt
import Derived.Test.YtmepiogoofmbbaaRg2
namespace Go.Proofs.Ytmepiogoofmbbaa.chain
open Go.ChangeShapes Go.WideShapes Go.ChangeAt Go.RowKit Go.Shelf Go.Sort
open Go.Proofs.Ytmepiogoofmbbaa.tm Go.Proofs.Ytmepiogoofmbbaa.opened Go.Proofs.Ytmepiogoofmbbaa.block Go.Proofs.Ytmepiogoofmbbaa.stamp

theorem join_bad2 {A B : List Tm} {iA : InL A} {iB : InL B} (h : bothE A B iA iB ≠ 0) : joinLE A B iA iB = bothE A B iA iB ∧ joinLV A B iA iB = [] :=
  ⟨by unfold joinLE; rw [if_pos h], by unfold joinLV; rw [if_pos h]⟩
theorem join_good2 {A B : List Tm} {iA : InL A} {iB : InL B} (h : bothE A B iA iB = 0) : joinLE A B iA iB = makeE (joins A B) (in_joins iA iB) ∧ joinLV A B iA iB = makeV (joins A B) (in_joins iA iB) := by
  have n : ¬ bothE A B iA iB ≠ 0 := fun q => q h
  exact ⟨by unfold joinLE; rw [if_neg n], by unfold joinLV; rw [if_neg n]⟩
/-- The joins so far: all of the first ones, and of this one with so many. -/
def jo (A B : List Tm) (i : Nat) (x : Tm) (k : Nat) : List Tm := joins (A.take i) B ++ (B.take k).map (joinV x)
theorem jo_zero (A B : List Tm) (i : Nat) (x : Tm) : jo A B i x 0 = joins (A.take i) B := by simp [jo]
theorem jo_next {A B : List Tm} {i k : Nat} {x y : Tm} (hy : B[k]? = some y) : jo A B i x (k + 1) = jo A B i x k ++ [joinV x y] := by
  unfold jo
  rw [List.take_add_one, hy]
  simp
theorem jo_all {A B : List Tm} {i : Nat} {x : Tm} (hx : A[i]? = some x) : jo A B i x B.length = joins (A.take (i + 1)) B := by
  unfold jo joins
  rw [List.take_add_one, hx]
  simp
theorem joins_len (A B : List Tm) : (joins A B).length = A.length * B.length := by
  induction A with
  | nil => simp [joins]
  | cons a r ih =>
    have : joins (a :: r) B = B.map (joinV a) ++ joins r B := by simp [joins]
    rw [this, List.length_append, ih, List.length_map, List.length_cons, Nat.add_mul, Nat.one_mul, Nat.add_comm]
theorem jo_len {A B : List Tm} {i k : Nat} {x : Tm} (hA : A.length ≤ 64) (hB : B.length ≤ 64) : (jo A B i x k).length ≤ 4160 := by
  unfold jo
  rw [List.length_append, joins_len, List.length_map, List.length_take, List.length_take]
  have h1 : min i A.length * B.length ≤ 64 * 64 := Nat.mul_le_mul (by omega) hB
  omega
theorem joins_few {A B : List Tm} (hA : A.length ≤ 64) (hB : B.length ≤ 64) : (joins A B).length ≤ 4096 := by
  rw [joins_len]
  exact Nat.mul_le_mul hA hB
theorem lt_one {w : World} {g : Nat} {t : TypeId} {z : Tm} (h : Whole w g t #[.int .u32 z.e, .int .i64 z.d, .int .u32 z.a, .int .u32 z.b, .int .u32 z.c]) : Lt w (some ⟨g, 0, none⟩) [z] := by
  refine .inr ⟨g, 0, rfl, h.inside, fun i x hx => ?_⟩
  cases i with
  | zero =>
    obtain rfl : cT z = x := by simpa using hx
    refine ⟨rfl, fun j _ => ?_⟩
    rw [show 0 + (0 * 5 + j) = j by omega, h.read j]
    show ((cT z).toArray)[j]? = (cT z)[j]?
    simp
  | succ i => simp at hx
/-- A slice's row is not this block. -/
def Away (D : Option Addr) (g : Nat) : Prop := ∀ n c, (Value.slice D n c).ownBlock ≠ some g
theorem away_new {w : World} {base n c : Nat} {D : Option Addr} {N : List Tm} (h : OwnT w base (.slice D n c) N) : Away D w.heap.size := by
  intro n' c' e
  rcases h.2 with ⟨hv, -⟩ | ⟨g, cap, cur, hv, -, hg, -⟩
  · injection hv with h1 h2 h3; subst h1; cases e
  · injection hv with h1 h2 h3
    subst h1
    have := (Array.getElem?_eq_some_iff.1 hg).1
    obtain rfl : g = w.heap.size := by simpa [Value.ownBlock] using e
    omega
theorem away_next {v : Value} {D : Option Addr} {n c g b : Nat} (h : v.ownBlock ≠ some g) (hb : g ≠ b) (hat : (Value.slice D n c).ownBlock = v.ownBlock ∨ (Value.slice D n c).ownBlock = some b) : Away D g := by
  intro n' c' e
  have e2 : (Value.slice D n c).ownBlock = some g := by cases D <;> exact e
  rcases hat with u | u
  · exact h (u.symm.trans e2)
  · rw [e2] at u; exact hb (Option.some.inj u)
section
open Go.Proofs.Ytmepiogoofmbbaa.region
variable {P : Program} {W0 : World} {o : Oper} {ρ : Operand → Value}
theorem tells_run {u : Value} (h : ∀ w, Below W0.heap.size W0 w → (execOp ρ o).run P w = .ok (.value u) w) : Tells P W0 o ρ u := fun w hb => .inl (h w hb)
theorem tells_index {ty : TypeId} {x y : Operand} (ho : o.op = .indexAddr ty x y) {b off n c i : Nat} {e : TypeId} {k : IntKind} (hx : ρ x = .slice (some ⟨b, off, none⟩) n c) (hy : ρ y = .int k i) (hi : i < n)
    (ht : P.underlying ty = some (.slice e)) (hs : ∀ w, (sizeOf e).run P w = .ok 5 w) : Tells P W0 o ρ (.pointer (some ⟨b, off + i * 5, none⟩)) := by
  refine tells_run fun w _ => ?_
  have h1 : 0 ≤ (i : Int) ∧ (i : Int) < (n : Int) := by omega
  unfold execOp
  simp [ho, hx, hy, go_sem, Instr.indexAt, Sem.run_bind, run_underlying ht, hs, h1, asIntOf, hi]
end
/-- The time at a place, loaded. -/
theorem load_time {w : World} {x : Tm} {b o : Nat} (hb : b < w.heap.size) (c0 : w.cell? ⟨b, o, none⟩ = some (.int .u32 x.e)) (c1 : w.cell? ⟨b, o + 1, none⟩ = some (.int .i64 x.d)) (c2 : w.cell? ⟨b, o + 2, none⟩ = some (.int .u32 x.a)) (c3 : w.cell? ⟨b, o + 3, none⟩ = some (.int .u32 x.b)) (c4 : w.cell? ⟨b, o + 4, none⟩ = some (.int .u32 x.c)) :
    ∀ w', Below w.heap.size w w' → (loadVar 26 ⟨b, o, none⟩).run Try.prog w' = .ok (.agg #[.int .u32 x.e, .int .i64 x.d, .int .u32 x.a, .int .u32 x.b, .int .u32 x.c]) w' := by
  intro w' h
  have e0 := (h.cell (p := ⟨b, o, none⟩) hb).trans c0
  have e1 := (h.cell (p := ⟨b, o + 1, none⟩) hb).trans c1
  have e2 := (h.cell (p := ⟨b, o + 2, none⟩) hb).trans c2
  have e3 := (h.cell (p := ⟨b, o + 3, none⟩) hb).trans c3
  have e4 := (h.cell (p := ⟨b, o + 4, none⟩) hb).trans c4
  simp [go_sem, e0, e1, e2, e3, e4]
open Go.Proofs.Ytmepiogoofmbbaa.region in
theorem tells_time {W0 : World} {o : Oper} {ρ : Operand → Value} {x : Operand} (ho : o.op = .load 26 x) {p : Addr} {v : Value} (hx : ρ x = .pointer (some p)) (h : ∀ w, Below W0.heap.size W0 w → (loadVar 26 p).run Try.prog w = .ok v w) : Tells Try.prog W0 o ρ v := by
  refine tells_run fun w hb => ?_
  unfold execOp
  simp only [ho, hx, Instr.loadAt, Instr.sureAddr, Sem.run_bind, Sem.run_pure, Result.andThen_ok, h w hb]
end Go.Proofs.Ytmepiogoofmbbaa.chain
