/-
  The document's disk: what Append is told of.
-/
import Derived.Test.YtkfjgmfokpgcbaaJRk4
import Derived.Sort.Walk0
import Derived.Laws.Slices
set_option linter.unusedSimpArgs false
set_option linter.unusedVariables false
namespace Go.Proofs.Ytkfjgmfokpgcbaa.disk
open Go.ChangeShapes Go.WideShapes Go.ChangeAt Go.RowKit
open Go.Proofs.Ytkfjgmfokpgcbaa.words Go.Proofs.Ytkfjgmfokpgcbaa.opened Go.Proofs.Ytkfjgmfokpgcbaa.block Go.Proofs.Ytkfjgmfokpgcbaa.data Go.Proofs.Ytkfjgmfokpgcbaa.region

theorem run_lssS (a b : Bs) (W : World) : (binOp .lss 9 (sV a) (sV b)).run Try.prog W = .ok (.bool (decide (a < b))) W := by
  have e : Op.bytesLess (⟨a.toArray⟩ : ByteArray).toList (⟨b.toArray⟩ : ByteArray).toList = decide (a < b) := by
    rw [bytesLess_eq]
    congr 1
    simp
  rw [binOp_string_lss, e]
  rfl
/-- Where a row's rest lies. -/
def suf (A : Option Addr) (i c : Nat) : Option Addr := if c = i then A else A.map (·.add (i * 3))
theorem elemF : Try.prog.underlying 26 = some (.slice (Try.prog.elem 26)) := by kernel_rfl
theorem sizeF (W : World) : (sizeOf (Try.prog.elem 26)).run Try.prog W = .ok 3 W := by
  obtain ⟨i, hi, -, hs, -⟩ := infoF_parts
  have e : Try.prog.elem 26 = 61 := by kernel_rfl
  rw [e]
  simp [sizeOf, typeInfo, hi, hs, go_sem]
theorem run_pre (A : Option Addr) (len c i : Nat) (h : i ≤ c) (W : World) : (Instr.slice 26 (.slice A len c) none (some (.int .i64 (i : Int))) none).run Try.prog W = .ok (.slice A i c) W := by
  rw [run_slice_h W _ A len c elemF .i64 (i : Int) (by omega) (by omega), sizeF]
  simp [Result.andThen, sliced]
  cases A with
  | none => simp
  | some a => cases a; simp [Addr.add]
theorem run_suf (A : Option Addr) (len c i m : Nat) (h : i ≤ len) (hm : len = i + m) (W : World) : (Instr.slice 26 (.slice A len c) (some (.int .i64 (i : Int))) none none).run Try.prog W = .ok (.slice (suf A i c) m (c - i)) W := by
  rw [run_slice_l W _ A len c elemF .i64 (i : Int) (by omega) (by omega), sizeF]
  subst hm
  simp [Result.andThen, sliced, suf]
theorem lf_pre {w : World} {A : Option Addr} {U R : List Fl} (h : Lf w A (U ++ R)) : Lf w A U := by
  rcases h with h | ⟨b, off, hA, hb, hc⟩
  · have : U = [] := by
      have e : U ++ R = [] := by simpa using h
      exact (List.append_eq_nil_iff.1 e).1
    subst this
    exact .inl rfl
  · refine .inr ⟨b, off, hA, hb, fun i x hx => hc i x ?_⟩
    rw [List.map_append, List.getElem?_append_left (List.getElem?_eq_some_iff.1 hx).1]
    exact hx
theorem lf_suf {w : World} {A : Option Addr} {U R : List Fl} {c : Nat} (h : Lf w A (U ++ R)) (hc : (U ++ R).length ≤ c) : Lf w (suf A U.length c) R := by
  cases R with
  | nil => exact .inl rfl
  | cons x r =>
    obtain ⟨b, off, rfl, hb, -⟩ := at_f h (k := 0) (f := (U ++ x :: r)[0]'(by simp; omega)) (List.getElem?_eq_getElem _)
    have := Lg.part h U.length (x :: r).length hb
    rw [List.drop_left, List.take_length] at this
    unfold suf
    rw [if_neg (by simp at hc; omega)]
    show Lf w (some ((⟨b, off, none⟩ : Addr).add (U.length * 3))) _
    have e : (⟨b, off, none⟩ : Addr).add (U.length * 3) = ⟨b, off + U.length * 3, none⟩ := by cases U.length * 3 <;> simp [Addr.add]
    rw [e]
    exact this
theorem lg_loneF (w : World) (f : Fl) : Lf (w.alloc (.cells #[sV f.n, sV f.b, .int .i64 (f.l : Int)] 61)) (some ⟨w.heap.size, 0, none⟩) [f] := by
  refine .inr ⟨w.heap.size, 0, rfl, by simp, fun i x hx => ?_⟩
  cases i with
  | zero =>
    obtain rfl : cF f = x := by simpa using hx
    refine ⟨rfl, fun j hj => ?_⟩
    have := (Whole.fresh w 61 #[sV f.n, sV f.b, .int .i64 (f.l : Int)]).read j
    rw [show 0 + (0 * 3 + j) = j by omega, this]
    exact List.getElem?_toArray ..
  | succ i => simp at hx
theorem app_bad {D : Dk} {n s : Bs} (h : chk D n ≠ 0) : appE D n s = chk D n ∧ appV D n s = D := by
  have e : appE D n s = chk D n := by unfold appE; rw [if_pos h]
  exact ⟨e, by unfold appV; rw [e, if_neg h, if_neg (fun q => h q.1)]⟩
theorem app_big {D : Dk} {n s : Bs} (h : chk D n = 0) (k : 262144 < used D.F + s.length) : appE D n s = 2 ∧ appV D n s = D := by
  have e : appE D n s = 2 := by unfold appE; rw [if_neg (by simpa using h), if_pos k]
  exact ⟨e, by unfold appV; rw [e, if_neg (by decide), if_neg (fun q => by omega)]⟩
theorem app_stop {D : Dk} {n s : Bs} (h : chk D n = 0) (k : ¬ 262144 < used D.F + s.length) (hz : stpE D = 14) : appE D n s = 14 ∧ appV D n s = stpV D := by
  have e : appE D n s = 14 := by unfold appE; rw [if_neg (by simpa using h), if_neg k, hz]
  exact ⟨e, by unfold appV; rw [e, if_neg (by decide), if_pos ⟨h, by omega⟩]⟩
theorem app_go {D : Dk} {n s : Bs} (h : chk D n = 0) (k : ¬ 262144 < used D.F + s.length) (hz : stpE D = 0) : appE D n s = 0 ∧ appV D n s = { stpV D with F := put ⟨n, oldB D.F n ++ s, oldL D.F n⟩ D.F } := by
  have e : appE D n s = 0 := by unfold appE; rw [if_neg (by simpa using h), if_neg k, hz]
  exact ⟨e, by unfold appV; rw [e, if_pos rfl]⟩
theorem used_take {F : List Fl} {k : Nat} {f : Fl} (h : F[k]? = some f) : used (F.take (k + 1)) = used (F.take k) + f.b.length := by
  unfold used
  rw [List.take_add_one, h]
  simp
theorem used_le (F : List Fl) (k : Nat) : used (F.take k) ≤ used F := by
  unfold used
  conv => rhs; rw [← List.take_append_drop k F, List.map_append, List.sum_append]
  omega
/-- A new file among the others. -/
theorem put_new {U R : List Fl} {n s : Bs} {F : List Fl} (hs : Srt F) (hk : lk F n = none) (hF : F = U ++ R) (h1 : ∀ x ∈ U, x.n < n) (h2 : ∀ y, R[0]? = some y → ¬ y.n < n) : put ⟨n, oldB F n ++ s, oldL F n⟩ F = U ++ ⟨n, s, 0⟩ :: R := by
  have e1 : oldB F n = [] := by unfold oldB; rw [hk]; rfl
  have e2 : oldL F n = 0 := by unfold oldL; rw [hk]; rfl
  rw [e1, e2, List.nil_append]
  unfold put
  rw [del_none hk]
  have hne := lk_none.1 hk
  subst hF
  refine ins_mid (g := ⟨n, s, 0⟩) h1 fun x hx => ?_
  cases R with
  | nil => simp at hx
  | cons y r =>
    have hy : n < y.n := lt_of_not (h2 y rfl) (hne y (by simp))
    rcases List.mem_cons.1 hx with rfl | hx
    · exact hy
    · obtain ⟨-, q2, -⟩ := List.pairwise_append.1 hs
      exact lt_tr hy ((List.pairwise_cons.1 q2).1 x hx)
end Go.Proofs.Ytkfjgmfokpgcbaa.disk
