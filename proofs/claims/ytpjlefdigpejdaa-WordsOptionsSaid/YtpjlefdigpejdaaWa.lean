/-
  The frame of WordsCut and WordsOptions: what the world's shape tells of MaxLen; an append of any strings to a row of one's own.
-/
import Derived.Test.YtpjlefdigpejdaaWw
import Derived.Test.YtpjlefdigpejdaaWx
import Derived.Laws.AppendOwnNone
import Derived.Shelf.Vars
import Derived.ProofKit
namespace Go.Proofs.Ytpjlefdigpejdaa.words
open Go.ChangeShapes Go.WideShapes Go.ChangeAt Go.RowKit
open Go.Proofs.Ytpjlefdigpejdaa.opened Go.Proofs.Ytpjlefdigpejdaa.block

set_option maxRecDepth 100000 in
theorem max_shaped {W : World} (hS : W.ShapedOpen Try.prog) : MaxIs W :=
  cell_of_shapedOpen_int (P := Try.prog) (g := 0) (t := 3) (zero := #[.int .i64 0]) hS (of_decide_eq_true (by kernel_rfl)) (by kernel_rfl) rfl (by kernel_rfl) (by kernel_rfl) Try.underlying3
theorem own : ownKnob Try.prog.godebug = none := by kernel_rfl
theorem laidOut : laidOutB Try.prog = true := by kernel_rfl
set_option maxRecDepth 100000 in
/-- THE FRAME: a law over arguments that are only read; MaxLen holds a number. -/
theorem liftM {os : Os} {f : FuncId} {fn : Func} {s : ChangeSpec} {H : Type} {enc : TypeId × Value → H} {ts : List TypeId} {dom : List PathCond}
    (started : os.Started) (noInit : Try.prog.inits.idxOf? f = none) (hfn : Try.prog.funcs[f]? = some fn)
    (hts : fn.params.toList = ts) (hrB : (ts.all fun t => Try.prog.readableRec t && decide (t < Try.prog.types.size)) = true)
    (hres : fn.resultTypes = #[4]) (hv : s.vars = [])
    (hspec : ∀ ds : List (DataW H), ds.length = ts.length → s.fn H (ds ++ []) = { results := [.lit (.bool true)], args := ds })
    (witness : ∃ (w : World) (tape : Tape) (i : Input), w.os = os ∧ (w.forCall tape i).Shaped Try.prog ∧ i.vars = [] ∧ Input.okWide Try.prog (w.forCall tape i) .any w.heap.size f i ∧
      s.pre6 enc Try.prog fn dom false (w.forCall tape i).memory i.args ∧ ({} : Assume).holds Try.prog (lone (Frame.enter Try.prog f i.args .normal) [] (w.forCall tape i)))
    (walk : ∀ (W : World) (args : Array Value), MaxIs W → Fed Try.prog W ts args → Calls Try.prog f args W fun e W' => e = .returned (.bool true) ∧ Below W.heap.size W W') :
    ReturnsInHanded {} Try.checked os f .any (s.pre6 enc Try.prog fn dom false) (s.post enc Try.prog fn false true false false) := by
  have hr : ∀ t ∈ ts, Try.prog.readableRec t = true ∧ t < Try.prog.types.size := fun t ht => by
    have := List.all_eq_true.1 hrB t ht
    simpa using this
  refine returnsInHanded_of_calls own started noInit witness ?_
  intro w tape i _ hsh _ hok hpre hholds
  obtain ⟨_, _, _, fn', hfn', _, _, _, _, hval⟩ := hok
  have e : fn' = fn := Option.some.inj (hfn'.symm.trans hfn)
  subst e
  obtain ⟨⟨ds, gs, before, hw, hc⟩, hz⟩ := hpre
  have hW := DataW.Whole.of_heap (w' := w.forCall tape i) (by rfl) hw
  have hsz := hz.weights hw
  have hE := max_shaped hsh
  clear hw hz hsh
  generalize w.forCall tape i = W at *
  generalize i.args = args at *
  generalize w.heap.size = base at *
  have hW' := hW
  obtain ⟨p, q, hA, hV, rfl, _, _⟩ := hW
  rw [hv] at hV
  obtain ⟨rfl, rfl⟩ := trodVars_none hV
  have hA' := hA
  rw [hts] at hA'
  obtain ⟨n1, n2, n3⟩ := trodAll_at hA'
  have hvt : (OpenSpec.ofChange s).bare.plain.varTypes Try.prog = [] := by
    show s.plain.varTypes Try.prog = []
    simp [ChangeSpec.plain, DataSpec.varTypes, hv]
  rw [hts, hvt, List.append_nil, List.append_nil] at hsz
  refine (walk W args hE ⟨by simpa using n1, fun j t v hj hjv => ?_⟩).mono fun e W' ⟨he, bel⟩ => ?_
  · have hjv' : args.toList[j]? = some v := by simpa using hjv
    obtain ⟨d, pl, hd, fuel, hf⟩ := n3 j t v hj hjv'
    refine ⟨⟨base, hval j t v (by rw [← Array.getElem?_toList, hts]; exact hj) hjv⟩, fun hO => hO enc W fuel _ _ hf (fun k hk => ?_)⟩
    have := List.all_eq_true.1 hsz _ (DataW.weights_mem_each hj hd k hk)
    simpa using this
  · subst he
    refine ChangeSpec.post_blind (v := .bool true) ?_
    refine ⟨ds, [], _, [], p, [], hW', ?_, ?_, ?_, bel.frame _, fun h => by cases h⟩
    · rw [hspec ds n2, hres]
      exact trodAll_mk1 (shut_bool Try.underlying4 _)
    · rw [hspec ds n2]
      have h3 := trodAll_below laidOut bel hr hA'
      rw [hts]
      exact h3
    · rw [hspec ds n2, hv]
      rfl
end Go.Proofs.Ytpjlefdigpejdaa.words
