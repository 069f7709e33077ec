/-
  The contracts of chain.LE, watershedref06.LE and of slices.Equal over times.
  The contracts of slices.Equal at times, of chain.Check and of watershedlaw06.own's callers.
  Times as keys of a map.
-/
import Derived.Test.YtomekndinopoaaaJLay
import Derived.Test.YtomekndinopoaaaJMi
import Derived.Maps.Keyed
import Derived.Maps.Own
import Derived.Maps.OwnOps
import Derived.Maps.OwnSet
import Derived.DeepKeys4
namespace Go.Proofs.Ytomekndinopoaaa.chain
open Go.ChangeShapes Go.WideShapes Go.ChangeAt Go.RowKit Go.Shelf
open Go.Proofs.Ytomekndinopoaaa.tm Go.Proofs.Ytomekndinopoaaa.opened Go.Proofs.Ytomekndinopoaaa.block Go.Proofs.Ytomekndinopoaaa.stamp

/-- Is a list of times not behind another one? -/
def leL (L M : List Tm) : Bool := M.all fun t => holdsB L t
theorem all_no {M : List Tm} {k : Nat} {t : Tm} {p : Tm → Bool} (hk : M[k]? = some t) (h : p t = false) : M.all p = false := by
  rw [← Bool.not_eq_true, List.all_eq_true]
  exact fun hh => by rw [hh t (List.mem_of_getElem? hk)] at h; cases h
theorem all_of_take {M : List Tm} {p : Tm → Bool} (h : ∀ y ∈ M, p y = true) : M.all p = true := List.all_eq_true.2 h
instance : Inhabited Tm := ⟨T0⟩
theorem neqT : NeqAt Try.prog 33 (fun t : Tm => .agg (cT t).toArray) eqT := ⟨fun x y w => run_neT x y w, GuardAt.agg _ (by kernel_rfl)⟩
theorem cell_cT {w : World} {A : Option Addr} {L : List Tm} {b off : Nat} (hL : Lt w A L) (hA : A = some ⟨b, off, none⟩) (j : Nat) (hj : j < L.length) (i : Nat) (v : Value) (hi : (cT L[j]!)[i]? = some v) : w.cell? ⟨b, off + j * 5 + i, none⟩ = some v := by
  have e : L[j]? = some L[j]! := by rw [getElem!_pos L j hj]; exact List.getElem?_eq_getElem hj
  obtain ⟨b', off', hA', -, c0, c1, c2, c3, c4⟩ := hL.at e
  rw [hA] at hA'
  injection (Option.some.inj hA') with h1 h2
  subst h1 h2
  generalize L[j]! = x at hi c0 c1 c2 c3 c4
  match i, hi with
  | 0, hi => simp [cT] at hi; rw [← hi]; exact c0
  | 1, hi => simp [cT] at hi; rw [← hi]; exact c1
  | 2, hi => simp [cT] at hi; rw [← hi]; exact c2
  | 3, hi => simp [cT] at hi; rw [← hi]; exact c3
  | 4, hi => simp [cT] at hi; rw [← hi]; exact c4
  | i + 5, hi => simp [cT] at hi
end Go.Proofs.Ytomekndinopoaaa.chain
namespace Go.Proofs.Ytomekndinopoaaa.chain
open Go.ChangeShapes Go.WideShapes Go.ChangeAt Go.RowKit Go.Shelf Go.Sort
open Go.Proofs.Ytomekndinopoaaa.tm Go.Proofs.Ytomekndinopoaaa.opened Go.Proofs.Ytomekndinopoaaa.block Go.Proofs.Ytomekndinopoaaa.stamp

theorem allEq_dec : ∀ L M : List Tm, Lib.allEq eqT L M = decide (L = M)
  | [], [] => by simp [Lib.allEq]
  | x :: r, y :: s => by
    rw [Lib.allEq, allEq_dec r s]
    by_cases h : x = y
    · subst h; rw [eqT_self]; simp
    · rw [eqT_no h]; simp [h]
  | [], _ :: _ => by simp [Lib.allEq]
  | _ :: _, [] => by simp [Lib.allEq]
/-- What Check says is wrong. -/
def checkE (L : List Tm) (h : InL L) : Int := if 64 < L.length then 7 else if makeE L h ≠ 0 then makeE L h else if makeV L h = L then 0 else 6
theorem keep_len (K : List Tm) (t : Tm) : (keep K t).length ≤ K.length + 1 := by
  unfold keep
  split
  · omega
  · simp
theorem minF_len : ∀ (L K : List Tm), (minF L K).length ≤ K.length + L.length
  | [], K => by simp [minF]
  | t :: r, K => by
    have h1 := keep_len K t
    have h2 := minF_len r (keep K t)
    unfold minF
    split
    · simp; omega
    · simp; omega
theorem makeV_len (L : List Tm) (h : InL L) : (makeV L h).length ≤ L.length := by
  unfold makeV makeS
  split
  · have := minF_len (srtL L h) []
    rw [srtL_len] at this
    simpa using this
  · simp
end Go.Proofs.Ytomekndinopoaaa.chain
namespace Go.Proofs.Ytomekndinopoaaa.multi
open Go.ChangeShapes Go.WideShapes Go.ChangeAt Go.RowKit Go.Maps Go.WideMaps
open Go.Proofs.Ytomekndinopoaaa.tm Go.Proofs.Ytomekndinopoaaa.opened Go.Proofs.Ytomekndinopoaaa.block Go.Proofs.Ytomekndinopoaaa.stamp Go.Proofs.Ytomekndinopoaaa.chain

set_option maxRecDepth 100000
theorem laidOutM : laidOutB Try.prog = true := by kernel_rfl
theorem rowT : 33 < Try.prog.types.size := of_decide_eq_true (by kernel_rfl)
theorem wideT : (match Try.prog.underlying 33 with | some (.array _ _) | some (.struct _) => true | _ => false) = true := by kernel_rfl
theorem lawT : KeyLaw Try.prog 33 := deep_law_laid laidOutM (m := 3) (by omega) rowT (by kernel_rfl) wideT
theorem keyT : Keyed Try.prog 33 := Keyed.of_law lawT
theorem cellsT5 : Try.prog.cellsOf 33 = 5 := by kernel_rfl
theorem cellsU : Try.prog.cellsOf 30 = 1 := by kernel_rfl
theorem cellsI : Try.prog.cellsOf 3 = 1 := by kernel_rfl
theorem cells3 : Try.prog.cellsOf 31 = 3 := by kernel_rfl
theorem deepT : Try.prog.keyTypeAt (Try.prog.types.size + 1) 33 = true := by kernel_rfl
/-- What a time reads as, as a key. -/
def klB (t : Tm) : List Lit := [.int .u32 t.e, .int .i64 t.d, .int .u32 t.a, .int .u32 t.b, .int .u32 t.c]
theorem wf_u32 {n : Int} (h0 : 0 ≤ n) (h1 : n ≤ 4294967295) : (Lit.int .u32 n).wf = true := WalkArith.wf_u32 ⟨h0, h1⟩
theorem wf_i64 {n : Int} (h0 : -9223372036854775808 ≤ n) (h1 : n ≤ 9223372036854775807) : (Lit.int .i64 n).wf = true := WalkArith.wf_i64 ⟨h0, h1⟩
theorem keyLits_time (t : Tm) (i : t.In) (n : Nat) : Try.prog.keyLits (n + 3) 33 [.int .u32 t.e, .int .i64 t.d, .int .u32 t.a, .int .u32 t.b, .int .u32 t.c] = some (klB t) := by
  have w1 := wf_u32 i.e0 i.e1
  have w2 := wf_i64 i.d0 i.d1
  have w3 := wf_u32 i.a0 i.a1
  have w4 := wf_u32 i.b0 i.b1
  have w5 := wf_u32 i.c0 i.c1
  simp [Program.keyLits, Try.underlying33, Try.underlying30, Try.underlying3, Try.underlying31, w1, w2, w3, w4, w5, cellsT5, cellsU, cellsI, cells3, klB, List.range, List.range.loop]
theorem keyOf_time (t : Tm) (i : t.In) : keyOf Try.prog 33 (.agg #[.int .u32 t.e, .int .i64 t.d, .int .u32 t.a, .int .u32 t.b, .int .u32 t.c]) = some (.string (keyBytes (klB t))) := by
  have hn : ∃ n, Try.prog.types.size + 1 = n + 3 := ⟨Try.prog.types.size - 2, by have := rowT; omega⟩
  obtain ⟨n, hn⟩ := hn
  have := keyLits_time t i n
  rw [← hn] at this
  unfold keyOf
  simp only [Try.underlying33]
  rw [show (.agg #[.int .u32 t.e, .int .i64 t.d, .int .u32 t.a, .int .u32 t.b, .int .u32 t.c] : Value).cells.toList = [.int .u32 t.e, .int .i64 t.d, .int .u32 t.a, .int .u32 t.b, .int .u32 t.c] from rfl, this, if_pos]
  · rfl
  · rw [show Try.prog.keyType 33 = true from deepT]
    simp [Value.formed, Try.underlying33, cellsT5]
end Go.Proofs.Ytomekndinopoaaa.multi
