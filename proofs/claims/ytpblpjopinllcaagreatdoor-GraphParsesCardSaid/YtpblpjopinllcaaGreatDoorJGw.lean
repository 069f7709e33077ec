/-
  The kinds of operators, as the program's table has them: where they may be, what their numbers may be.
  Listed tables of plain parts: their cells, told by what is listed. It names no number of a program.
  The frame of the cards: what the listed variables give the walks, a law whose arguments are only read.
-/
import Derived.Test.YtpblpjopinllcaaGreatDoorJGl
import Derived.Test.YtpblpjopinllcaaGreatDoorJOpen
import Derived.Lib.LaidTab
import Derived.Test.YtpblpjopinllcaaGreatDoorRows
import Derived.Test.YtpblpjopinllcaaGreatDoorJOpenT
import Derived.ProofKit
import Derived.OpenShut
import Derived.LaidMore
import Derived.Lay
import Derived.Stop.Joined
import Derived.Stop.LaidErr
import Derived.Shelf.Vars
import Derived.Handed
namespace Go.Proofs.YtpblpjopinllcaaGreatDoor.graph
open Go.ChangeShapes Go.WideShapes Go.ChangeAt Go.RowKit Go.Shelf
open Go.Proofs.YtpblpjopinllcaaGreatDoor.opened Go.Proofs.YtpblpjopinllcaaGreatDoor.block Go.Proofs.YtpblpjopinllcaaGreatDoor.words
/-- A kind's row in the table: its word, where, how many numbers, the spans of A and of B. -/
def kRow : Nat → List Value
  | 1 => [sV [105, 110, 112, 117, 116], .int .i64 1, .int .i64 0, .int .i64 0, .int .i64 0, .int .i64 0, .int .i64 0]
  | 2 => [sV [99, 97, 112, 116, 117, 114, 101], .int .i64 1, .int .i64 0, .int .i64 0, .int .i64 0, .int .i64 0, .int .i64 0]
  | 3 => [sV [109, 97, 112], .int .i64 0, .int .i64 2, .int .i64 (-9223372036854775808), .int .i64 9223372036854775807, .int .i64 (-9223372036854775808), .int .i64 9223372036854775807]
  | 4 => [sV [102, 105, 108, 116, 101, 114], .int .i64 0, .int .i64 2, .int .i64 1, .int .i64 1000, .int .i64 0, .int .i64 999]
  | 5 => [sV [115, 119, 97, 112], .int .i64 0, .int .i64 0, .int .i64 0, .int .i64 0, .int .i64 0, .int .i64 0]
  | 6 => [sV [114, 101, 107, 101, 121], .int .i64 0, .int .i64 1, .int .i64 1, .int .i64 1000, .int .i64 0, .int .i64 0]
  | 7 => [sV [101, 110, 116, 101, 114], .int .i64 2, .int .i64 0, .int .i64 0, .int .i64 0, .int .i64 0, .int .i64 0]
  | 8 => [sV [108, 101, 97, 118, 101], .int .i64 2, .int .i64 0, .int .i64 0, .int .i64 0, .int .i64 0, .int .i64 0]
  | 9 => [sV [110, 101, 120, 116], .int .i64 2, .int .i64 0, .int .i64 0, .int .i64 0, .int .i64 0, .int .i64 0]
  | 10 => [sV [100, 101, 108, 97, 121], .int .i64 0, .int .i64 1, .int .i64 0, .int .i64 1000, .int .i64 0, .int .i64 0]
  | 11 => [sV [115, 117, 109], .int .i64 0, .int .i64 0, .int .i64 0, .int .i64 0, .int .i64 0, .int .i64 0]
  | 12 => [sV [99, 111, 117, 110, 116], .int .i64 0, .int .i64 0, .int .i64 0, .int .i64 0, .int .i64 0, .int .i64 0]
  | 13 => [sV [108, 101, 97, 115, 116], .int .i64 0, .int .i64 0, .int .i64 0, .int .i64 0, .int .i64 0, .int .i64 0]
  | 14 => [sV [109, 111, 115, 116], .int .i64 0, .int .i64 0, .int .i64 0, .int .i64 0, .int .i64 0, .int .i64 0]
  | _ => [sV [], .int .i64 0, .int .i64 0, .int .i64 0, .int .i64 0, .int .i64 0, .int .i64 0]
/-- The world holds the table of kinds. -/
structure KT (w : World) : Prop where
  lo : 0 < w.heap.size
  c : ∀ k, k < 15 → ∀ i, i < 7 → w.cell? ⟨0, k * 7 + i, none⟩ = (kRow k)[i]?
theorem KT.below {w w' : World} (h : KT w) (hb : Below w.heap.size w w') : KT w' :=
  ⟨Nat.lt_of_lt_of_le h.lo hb.size, fun k hk i hi => (hb.cell (p := ⟨0, k * 7 + i, none⟩) h.lo).trans (h.c k hk i hi)⟩
def whereK (k : Nat) : Int := if k ≤ 2 then 1 else if 7 ≤ k ∧ k ≤ 9 then 2 else 0
theorem kind_where {w : World} (h : KT w) (k : Nat) (h1 : 1 ≤ k) (h2 : k ≤ 14) : w.cell? ⟨0, k * 7 + 1, none⟩ = some (.int .i64 (whereK k)) := by
  rw [h.c k (by omega) 1 (by decide)]
  match k, h1, h2 with
  | 1, _, _ => rfl
  | 2, _, _ => rfl
  | 3, _, _ => rfl
  | 4, _, _ => rfl
  | 5, _, _ => rfl
  | 6, _, _ => rfl
  | 7, _, _ => rfl
  | 8, _, _ => rfl
  | 9, _, _ => rfl
  | 10, _, _ => rfl
  | 11, _, _ => rfl
  | 12, _, _ => rfl
  | 13, _, _ => rfl
  | 14, _, _ => rfl
  | k + 15, _, h => omega
set_option maxRecDepth 100000 in
theorem where_any (k : Nat) (h1 : 1 ≤ k) (h2 : k ≤ 14) (l : Int) (w : World) (K : KT w) :
    Calls Tryz.prog 161 #[.int .i64 k, .int .i64 l] w fun e w' => e = .returned (.bool (whereB k l)) ∧ Below w.heap.size w w' := by
  have c := kind_where K k h1 h2
  have hv : whereB k l = if whereK k = 1 then decide (l = -1) else if whereK k = 2 then decide (l ≠ -1) else true := by
    unfold whereB whereK
    by_cases a : k ≤ 2
    · rw [if_pos (by omega), if_pos a, if_pos rfl]
    · rw [if_neg (by omega), if_neg a]
      by_cases b : 7 ≤ k ∧ k ≤ 9
      · rw [if_pos (by omega), if_pos b, if_neg (by decide), if_pos rfl]
      · rw [if_neg (by omega), if_neg b, if_neg (by decide), if_neg (by decide)]
  rw [hv]
  have hw : whereK k = 0 ∨ whereK k = 1 ∨ whereK k = 2 := by unfold whereK; split; · simp
                                                             · split <;> simp
  clear hv K
  by_cases hl : l = -1
  · subst hl
    rcases hw with e | e | e <;> rw [e] at c ⊢ <;> clear e
    · go_enter Tryz.func161, Tryz.ntmps161
      go_wp2_with fail
      go_ret
      exact ⟨rfl, Below.refl _ _⟩
    · go_enter Tryz.func161, Tryz.ntmps161
      go_wp2_with fail
      go_ret
      exact ⟨rfl, Below.refl _ _⟩
    · go_enter Tryz.func161, Tryz.ntmps161
      go_wp2_with fail
      go_ret
      exact ⟨rfl, Below.refl _ _⟩
  · have hl2 : (l == -1) = false := by rw [beq_eq_false_iff_ne]; exact hl
    rcases hw with e | e | e <;> rw [e] at c ⊢ <;> clear e
    · go_enter Tryz.func161, Tryz.ntmps161
      go_wp2_with fail
      go_ret
      exact ⟨rfl, Below.refl _ _⟩
    · go_enter Tryz.func161, Tryz.ntmps161
      go_wp2_with fail
      go_ret
      exact ⟨by simp, Below.refl _ _⟩
    · go_enter Tryz.func161, Tryz.ntmps161
      go_wp2_with fail
      go_ret
      exact ⟨by simp [hl], Below.refl _ _⟩
theorem holds_any (a b v : Int) (w : World) : Calls Tryz.prog 242 #[.agg #[.int .i64 a, .int .i64 b], .int .i64 v] w fun e w' => e = .returned (.bool (decide (a ≤ v ∧ v ≤ b))) ∧ Below w.heap.size w w' := by
  by_cases h1 : a ≤ v
  · by_cases h2 : v ≤ b
    · rw [decide_eq_true (And.intro h1 h2)]
      go_enter Tryz.func242, Tryz.ntmps242
      go_wp2
      go_ret
      exact ⟨rfl, fresh1 _ _⟩
    · rw [decide_eq_false (fun h => h2 h.2)]
      go_enter Tryz.func242, Tryz.ntmps242
      go_wp2
      go_ret
      exact ⟨rfl, fresh1 _ _⟩
  · rw [decide_eq_false (fun h => h1 h.1)]
    go_enter Tryz.func242, Tryz.ntmps242
    go_wp2
    go_ret
    exact ⟨rfl, fresh1 _ _⟩
end Go.Proofs.YtpblpjopinllcaaGreatDoor.graph
namespace Go.Proofs.YtpblpjopinllcaaGreatDoor.tabs
open Go.Proofs.YtpblpjopinllcaaGreatDoor.opened
/-- Cells of type t that read as d are these. -/
def Knows (P : Program) (t : TypeId) (d : DataW Unit) (c0 : List Value) : Prop :=
  ∀ (enc : TypeId × Value → Unit) (w : World) (base : Nat) (sp : Nat → Bool) (held : Bool) (fuel : Nat) (cs : List Value) (x : DataW Unit × List MemPlace),
    DataW.trod enc P w base sp held fuel t cs = some x → x.1 = d → cs = c0
def KnowsFs (P : Program) (ts : List TypeId) (ds : List (DataW Unit)) (c0 : List Value) : Prop :=
  ∀ (enc : TypeId × Value → Unit) (w : World) (base : Nat) (sp : Nat → Bool) (held : Bool) (n : Nat) (cs : List Value) (xs : List (DataW Unit × List MemPlace)),
    xs.length = ts.length → cs.length = sumOf P ts → (∀ i t, ts[i]? = some t → DataW.trod enc P w base sp held n t ((cs.drop (offOf P ts i)).take (P.cellsOf t)) = xs[i]?) → xs.map (·.1) = ds → cs = c0
variable {P : Program} {t : TypeId}
theorem knows_int {k : IntKind} (ht : P.underlying t = some (.int k)) (z : Int) : Knows P t (.lit (.int k z)) [.int k z] := by
  intro enc w base sp held fuel cs x h hx
  obtain ⟨n, rfl, rfl, _⟩ := DataW.trod_int ht h
  injection hx with e
  injection e with _ e
  rw [e]
theorem knows_str (ht : P.underlying t = some .string) (l : List UInt8) : Knows P t (.lit (.string l)) [.string ⟨l.toArray⟩] := by
  intro enc w base sp held fuel cs x h hx
  obtain ⟨s, rfl, rfl, _⟩ := DataW.trod_string ht h
  injection hx with e
  injection e with e
  subst e
  rfl
theorem knowsFs_nil : KnowsFs P [] [] [] := by
  intro enc w base sp held n cs xs _ hc _ _
  exact List.eq_nil_of_length_eq_zero (by simpa [sumOf] using hc)
theorem knowsFs_cons {d : DataW Unit} {c0 : List Value} {ts : List TypeId} {ds : List (DataW Unit)} {c1 : List Value} (hR : Knows P t d c0) (hS : KnowsFs P ts ds c1) : KnowsFs P (t :: ts) (d :: ds) (c0 ++ c1) := by
  intro enc w base sp held n cs xs hl hc h hd
  match xs, hl with
  | x :: xs, hl =>
    have h0 := h 0 t rfl
    simp only [offOf, List.drop_zero, List.getElem?_cons_zero] at h0
    simp only [List.map_cons, List.cons.injEq] at hd
    have e0 := hR enc w base sp held n _ x h0 hd.1
    have e1 := hS enc w base sp held n (cs.drop (P.cellsOf t)) xs (by simpa using hl) (by simp only [sumOf] at hc; simp; omega)
      (fun i u hu => by
        have := h (i + 1) u hu
        simp only [offOf, List.getElem?_cons_succ] at this
        rw [List.drop_drop]
        exact this) hd.2
    rw [← e0, ← e1, List.take_append_drop]
theorem knows_struct {fs : Array Field} {ts : List TypeId} {ds : List (DataW Unit)} {c0 : List Value} (ht : P.underlying t = some (.struct fs)) (ho : offsetsOk P fs ts = true) (hc : P.cellsOf t = sumOf P ts) (hS : KnowsFs P ts ds c0) : Knows P t (.agg ds) c0 := by
  intro enc w base sp held fuel cs x h hx
  obtain ⟨xs, n, _, rfl, hlen, hxl, hf⟩ := DataW.trod_struct ht h
  simp only [offsetsOk, Bool.and_eq_true, beq_iff_eq] at ho
  obtain ⟨hts, ho⟩ := ho
  injection hx with hx
  refine hS enc w base sp held n cs xs ?_ (hlen.trans hc) ?_ hx
  · rw [← hts]; simpa using hxl
  · intro i u hu
    have hi : i < fs.size := by
      have := (List.getElem?_eq_some_iff.1 hu).1
      rw [← hts] at this
      simpa using this
    have hf' := hf i fs[i] (Array.getElem?_eq_getElem hi)
    have hoo := List.all_eq_true.1 ho i (List.mem_range.2 hi)
    rw [Array.getElem?_eq_getElem hi] at hoo
    simp only [beq_iff_eq] at hoo
    have hty : fs[i].type = u := by
      rw [← hts] at hu
      simp only [List.getElem?_map, Array.getElem?_toList, Array.getElem?_eq_getElem hi, Option.map_some, Option.some.injEq] at hu
      exact hu
    rw [hoo, hty] at hf'
    exact hf'
/-- A table's cells, element by element. -/
theorem knows_array {w : World} {base : Nat} {sp : Nat → Bool} {held : Bool} {enc : TypeId × Value → Unit} {e : TypeId} {n m fuel : Nat} {cs : List Value} {x : DataW Unit × List MemPlace} {ds : List (DataW Unit)} (ht : P.underlying t = some (.array n e)) (hm : P.cellsOf e = m) (hc : P.cellsOf t = n * m)
    (h : DataW.trod enc P w base sp held fuel t cs = some x) (hx : x.1 = .agg ds) : cs.length = n * m ∧ ∀ i d c0, ds[i]? = some d → Knows P e d c0 → ∀ j, j < m → cs[i * m + j]? = c0[j]? := by
  cases fuel with
  | zero => simp [DataW.trod] at h
  | succ fuel =>
    simp only [DataW.trod, ht] at h
    split at h
    · rename_i hl
      obtain ⟨xs, hm', rfl⟩ := Option.map_eq_some_iff.1 h
      rw [hm] at hm'
      refine ⟨hl.trans hc, fun i d c0 hd hk j hj => ?_⟩
      injection hx with hx
      rw [← hx, List.getElem?_map, Option.map_eq_some_iff] at hd
      obtain ⟨y, hy, hy1⟩ := hd
      have hxl : xs.length = n := by simpa using Lib.mapM_length hm'
      have hi : i < n := by rw [← hxl]; exact (List.getElem?_eq_some_iff.1 hy).1
      obtain ⟨b, hb, hf⟩ := Lib.mapM_at hm' i i (by simp [hi])
      rw [hy] at hb
      obtain rfl := Option.some.inj hb
      have e0 := hk enc w base sp held fuel _ _ hf hy1
      rw [← e0, List.getElem?_take_of_lt hj, List.getElem?_drop]
    · cases h
/-- A listed table's cells. -/
theorem laid_cells {W : World} {name : String} {ds : List (DataW Unit)} {rest : List (String × DataW Unit)} {g : Nat} {e : TypeId} {n m : Nat}
    (hg : P.globalNamed name = some g) (hty : (P.globals[g]?).map (·.type) = some t) (ht : P.underlying t = some (.array n e)) (hm : P.cellsOf e = m) (hc : P.cellsOf t = n * m) (hm0 : 0 < m) (hn : 0 < n)
    (h : laidMet P ((name, .agg ds) :: rest) W) : g < W.heap.size ∧ ∀ i d c0, ds[i]? = some d → Knows P e d c0 → ∀ j, j < m → W.cell? ⟨g, i * m + j, none⟩ = c0[j]? := by
  obtain ⟨ps, ⟨g', t', cs, fuel, p, q, hg', ht', hvar, hd, _, _⟩, _⟩ := h
  obtain rfl := Option.some.inj (hg.symm.trans hg')
  obtain rfl := Option.some.inj (hty.symm.trans ht')
  have hv := World.var?_cell hg hvar
  obtain ⟨hl, hk⟩ := knows_array ht hm hc hd rfl
  refine ⟨?_, fun i d c0 hd hkn j hj => ?_⟩
  · have h0 := hv 0
    have : 0 < cs.toList.length := by rw [hl]; exact Nat.mul_pos hn hm0
    obtain ⟨v, hv0⟩ : ∃ v, W.cell? ⟨g, 0, none⟩ = some v := by
      refine ⟨cs.toList[0], ?_⟩
      rw [h0]
      simp
    exact World.block_lt_of_cell? W _ hv0
  · have := hk i d c0 hd hkn j hj
    rw [hv]
    simpa using this
end Go.Proofs.YtpblpjopinllcaaGreatDoor.tabs
namespace Go.Proofs.YtpblpjopinllcaaGreatDoor.graph
open Go.ChangeShapes Go.WideShapes Go.ChangeAt Go.RowKit
open Go.Proofs.YtpblpjopinllcaaGreatDoor.opened Go.Proofs.YtpblpjopinllcaaGreatDoor.tabs Go.Proofs.YtpblpjopinllcaaGreatDoor.words
theorem gKinds : Tryz.prog.globalNamed "watershed/graph.kinds" = some 0 := by kernel_rfl
theorem gKindsT : (Tryz.prog.globals[0]?).map (·.type) = some 236 := by kernel_rfl
theorem knows_span (a b : Int) : Knows Tryz.prog 233 (.agg [.lit (.int .i64 a), .lit (.int .i64 b)]) [.int .i64 a, .int .i64 b] :=
  knows_struct Tryz.underlying233 (ts := [2, 2]) (by kernel_rfl) (by kernel_rfl) (knowsFs_cons (knows_int Tryz.underlying2 a) (knowsFs_cons (knows_int Tryz.underlying2 b) knowsFs_nil))
theorem knows_kind (l : List UInt8) (a b c d e f : Int) : Knows Tryz.prog 235 (.agg [.lit (.string l), .lit (.int .i64 a), .lit (.int .i64 b), .agg [.lit (.int .i64 c), .lit (.int .i64 d)], .agg [.lit (.int .i64 e), .lit (.int .i64 f)]]) [sV l, .int .i64 a, .int .i64 b, .int .i64 c, .int .i64 d, .int .i64 e, .int .i64 f] :=
  knows_struct Tryz.underlying235 (ts := [9, 3, 3, 233, 233]) (by kernel_rfl) (by kernel_rfl) (knowsFs_cons (knows_str Tryz.underlying9 l) (knowsFs_cons (knows_int Tryz.underlying3 a) (knowsFs_cons (knows_int Tryz.underlying3 b) (knowsFs_cons (knows_span c d) (knowsFs_cons (knows_span e f) knowsFs_nil)))))
/-- The listed table of kinds is what the walks want. -/
theorem kt_of {W : World} {rest : List (String × DataW Unit)} (h : laidMet Tryz.prog (("watershed/graph.kinds", Rows.laid_watershed_graph_kinds) :: rest) W) : KT W := by
  obtain ⟨hlt, hc⟩ := laid_cells gKinds gKindsT Tryz.underlying236 (n := 15) (m := 7) (by kernel_rfl) (by kernel_rfl) (by decide) (by decide) h
  refine ⟨hlt, fun k hk i hi => ?_⟩
  match k, hk with
  | 0, _ => exact hc 0 _ _ rfl (knows_kind _ _ _ _ _ _ _) i hi
  | 1, _ => exact hc 1 _ _ rfl (knows_kind _ _ _ _ _ _ _) i hi
  | 2, _ => exact hc 2 _ _ rfl (knows_kind _ _ _ _ _ _ _) i hi
  | 3, _ => exact hc 3 _ _ rfl (knows_kind _ _ _ _ _ _ _) i hi
  | 4, _ => exact hc 4 _ _ rfl (knows_kind _ _ _ _ _ _ _) i hi
  | 5, _ => exact hc 5 _ _ rfl (knows_kind _ _ _ _ _ _ _) i hi
  | 6, _ => exact hc 6 _ _ rfl (knows_kind _ _ _ _ _ _ _) i hi
  | 7, _ => exact hc 7 _ _ rfl (knows_kind _ _ _ _ _ _ _) i hi
  | 8, _ => exact hc 8 _ _ rfl (knows_kind _ _ _ _ _ _ _) i hi
  | 9, _ => exact hc 9 _ _ rfl (knows_kind _ _ _ _ _ _ _) i hi
  | 10, _ => exact hc 10 _ _ rfl (knows_kind _ _ _ _ _ _ _) i hi
  | 11, _ => exact hc 11 _ _ rfl (knows_kind _ _ _ _ _ _ _) i hi
  | 12, _ => exact hc 12 _ _ rfl (knows_kind _ _ _ _ _ _ _) i hi
  | 13, _ => exact hc 13 _ _ rfl (knows_kind _ _ _ _ _ _ _) i hi
  | 14, _ => exact hc 14 _ _ rfl (knows_kind _ _ _ _ _ _ _) i hi
  | k + 15, hk => omega
theorem own : ownKnob Tryz.prog.godebug = none := by kernel_rfl
theorem laidOut : laidOutB Tryz.prog = true := by kernel_rfl
set_option maxRecDepth 100000 in
/-- THE FRAME: a law over arguments that are only read, where the listed variables read as laid. -/
theorem liftG {os : Os} {f : FuncId} {fn : Func} {s : ChangeSpec} {H : Type} {enc : TypeId × Value → H} {ts : List TypeId} {dom : List PathCond} {l : List (String × DataW Unit)} {Env : World → Prop} (hEnv : ∀ W : World, W.ShapedOpen Tryz.prog → laidMetH Tryz.prog l W → Env W)
    (started : os.Started) (noInit : Tryz.prog.inits.idxOf? f = none) (hfn : Tryz.prog.funcs[f]? = some fn)
    (hts : fn.params.toList = ts) (hrB : (ts.all fun t => Tryz.prog.readableRec t && decide (t < Tryz.prog.types.size)) = true)
    (hres : fn.resultTypes = #[4]) (hv : s.vars = [])
    (hspec : ∀ ds : List (DataW H), ds.length = ts.length → s.fn H (ds ++ []) = { results := [.lit (.bool true)], args := ds })
    (witness : ∃ (w : World) (tape : Tape) (i : Input), w.os = os ∧ (w.forCall tape i).Shaped Tryz.prog ∧ i.vars = [] ∧ Input.okWide Tryz.prog (w.forCall tape i) .any w.heap.size f i ∧
      ((s.pre enc Tryz.prog fn dom false (w.forCall tape i).memory i.args ∧ laidMetH Tryz.prog l (w.forCall tape i).memory) ∧ sizedMet enc Tryz.prog fn (OpenSpec.ofChange s) false (w.forCall tape i).memory i.args) ∧ ({} : Assume).holds Tryz.prog (lone (Frame.enter Tryz.prog f i.args .normal) [] (w.forCall tape i)))
    (walk : ∀ (W : World) (args : Array Value), Env W → Fed Tryz.prog W ts args → Calls Tryz.prog f args W fun e W' => e = .returned (.bool true) ∧ Below W.heap.size W W') :
    ReturnsInHanded {} Tryz.checked os f .any (fun w args => (s.pre enc Tryz.prog fn dom false w args ∧ laidMetH Tryz.prog l w) ∧ sizedMet enc Tryz.prog fn (OpenSpec.ofChange s) false w args) (s.post enc Tryz.prog fn false true false false) := by
  have hr : ∀ t ∈ ts, Tryz.prog.readableRec t = true ∧ t < Tryz.prog.types.size := fun t ht => by
    have := List.all_eq_true.1 hrB t ht
    simpa using this
  refine returnsInHanded_of_calls own started noInit witness ?_
  intro w tape i _ hsh _ hok hpre hholds
  obtain ⟨_, _, _, fn', hfn', _, _, _, _, hval⟩ := hok
  have e : fn' = fn := Option.some.inj (hfn'.symm.trans hfn)
  subst e
  obtain ⟨⟨⟨ds, gs, before, hw, hc⟩, hx⟩, hz⟩ := hpre
  have hW := DataW.Whole.of_heap (w' := w.forCall tape i) (by rfl) hw
  have hsz := hz.weights hw
  have hL : laidMetH Tryz.prog l (w.forCall tape i) := hx.of_heap (by rfl)
  have hE := hEnv _ hsh hL
  clear hw hz hx hL hsh
  generalize w.forCall tape i = W at *
  generalize i.args = args at *
  generalize w.heap.size = base at *
  have hW' := hW
  obtain ⟨p, q, hA, hV, rfl, _, _⟩ := hW
  rw [hv] at hV
  obtain ⟨rfl, rfl⟩ := trodVars_none hV
  have hA' := hA
  rw [hts] at hA'
  obtain ⟨n1, n2, n3⟩ := trodAll_at hA'
  have hvt : (OpenSpec.ofChange s).bare.plain.varTypes Tryz.prog = [] := by
    show s.plain.varTypes Tryz.prog = []
    simp [ChangeSpec.plain, DataSpec.varTypes, hv]
  rw [hts, hvt, List.append_nil, List.append_nil] at hsz
  refine (walk W args hE ⟨by simpa using n1, fun j t v hj hjv => ?_⟩).mono fun e W' ⟨he, bel⟩ => ?_
  · have hjv' : args.toList[j]? = some v := by simpa using hjv
    obtain ⟨d, pl, hd, fuel, hf⟩ := n3 j t v hj hjv'
    refine ⟨⟨base, hval j t v (by rw [← Array.getElem?_toList, hts]; exact hj) hjv⟩, fun hO => hO enc W fuel _ _ hf (fun k hk => ?_)⟩
    have := List.all_eq_true.1 hsz _ (DataW.weights_mem_each hj hd k hk)
    simpa using this
  · subst he
    refine ChangeSpec.post_blind (v := .bool true) ?_
    refine ⟨ds, [], _, [], p, [], hW', ?_, ?_, ?_, bel.frame _, fun h => by cases h⟩
    · rw [hspec ds n2, hres]
      exact trodAll_mk1 (shut_bool Tryz.underlying4 _)
    · rw [hspec ds n2]
      have h3 := trodAll_below laidOut bel hr hA'
      rw [hts]
      exact h3
    · rw [hspec ds n2, hv]
      rfl
end Go.Proofs.YtpblpjopinllcaaGreatDoor.graph
