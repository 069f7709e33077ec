/-
  GraphParses: the graph of any text, or which line is wrong, and what, as the document says. No condition.
-/
import Derived.Test.YtpblpjopinllcaaGreatDoorJGw
import Derived.Test.YtpblpjopinllcaaGreatDoorJGfr
import Derived.Test.YtpblpjopinllcaaGreatDoorJGfx
import Derived.Test.YtpblpjopinllcaaGreatDoorTie
import Derived.Test.YtpblpjopinllcaaGreatDoorCards
set_option linter.unusedSimpArgs false
set_option linter.unusedVariables false
namespace Go.Proofs.YtpblpjopinllcaaGreatDoor.graph
open Go.ChangeShapes Go.WideShapes Go.ChangeAt Go.RowKit
open Go.Proofs.YtpblpjopinllcaaGreatDoor.opened Go.Proofs.YtpblpjopinllcaaGreatDoor.block Go.Proofs.YtpblpjopinllcaaGreatDoor.words
noncomputable abbrev laidR : List (String × DataW Unit) := Rows.graphParsesRow.laid
noncomputable def start (os : Os) : World := World.laidAll Tryz.prog os laidR
set_option maxRecDepth 100000 in
theorem start_met (os : Os) (args : Array Value) : laidMetH Tryz.prog laidR ((start os).forCall (fun _ _ => 0) ⟨#[], args, []⟩).memory := by
  rw [MakeChecks.laidMetH_plain _ _ _ (by kernel_rfl)]
  exact laidMet_laidAll _ (by kernel_rfl) (by kernel_rfl)
theorem gTab9 : Tryz.prog.globalNamed "internal/strconv.uint64pow10" = some 2 := by kernel_rfl
theorem gTab9T : (Tryz.prog.globals[2]?).map (·.type) = some 374 := by kernel_rfl
theorem gSyn : Tryz.prog.globalNamed "strconv.ErrSyntax" = some 5 := by kernel_rfl
theorem gSynT : (Tryz.prog.globals[5]?).map (·.type) = some 227 := by kernel_rfl
theorem gRng : Tryz.prog.globalNamed "strconv.ErrRange" = some 6 := by kernel_rfl
theorem gRngT : (Tryz.prog.globals[6]?).map (·.type) = some 227 := by kernel_rfl
theorem star : "*" ++ "errors.errorString" = "*errors.errorString" := by decide
theorem rowErr (u : TypeId) (h : Tryz.prog.typeName? 3 u = some "*errors.errorString") : u = 424 :=
  typeName_ptr_named (nm := "errors.errorString") (by rw [star]; kernel_rfl) (by kernel_rfl) (by decide) u (by rw [star]; exact h)
set_option maxRecDepth 100000 in
theorem env_of {W : World} (hS : W.ShapedOpen Tryz.prog) (hL : laidMetH Tryz.prog laidR W) : EnvG W := by
  rw [MakeChecks.laidMetH_plain _ _ _ (by kernel_rfl)] at hL
  have h5 := hL.tail.tail.tail
  obtain ⟨a1, s1, hr, -, -, -⟩ := laid_sentinel h5 gRng gRngT Tryz.underlying227 rowErr Tryz.underlying424 Tryz.underlying425 rfl rfl Tryz.underlying9 (by kernel_rfl) (by kernel_rfl)
  obtain ⟨a0, s0, hs, -, -, -⟩ := laid_sentinel h5.tail gSyn gSynT Tryz.underlying227 rowErr Tryz.underlying424 Tryz.underlying425 rfl rfl Tryz.underlying9 (by kernel_rfl) (by kernel_rfl)
  exact ⟨⟨Lib.tabIs_of_head gTab9 gTab9T Tryz.underlying374 Tryz.underlying64 (by kernel_rfl) (by kernel_rfl) hL.tail.tail,
    cell_of_shapedOpen_int (P := Tryz.prog) (g := 1) (t := 3) (zero := #[.int .i64 0]) hS (of_decide_eq_true (by kernel_rfl)) (by kernel_rfl) rfl (by kernel_rfl) (by kernel_rfl) Tryz.underlying3,
    ⟨_, _, hs⟩, ⟨_, _, hr⟩⟩, kt_of h5.tail.tail⟩
set_option maxRecDepth 100000 in
theorem told (W : World) (args : Array Value) (hE : EnvG W) (h : Fed Tryz.prog W [9] args) : Calls Tryz.prog 3 args W fun e W' => e = .returned (.bool true) ∧ Below W.heap.size W W' := by
  obtain ⟨v0, rfl⟩ := args1 h.count
  obtain ⟨⟨_, o0⟩, r0⟩ := h.each 0 9 v0 rfl rfl
  obtain ⟨a0, q0⟩ := r0 (opens_str Tryz.underlying9)
  obtain ⟨rfl, -⟩ := top_str Tryz.underlying9 o0 q0
  obtain ⟨s0, rfl⟩ : ∃ s : Bs, a0 = ⟨s.toArray⟩ := ⟨a0.data.toList, (Lib.mk_data a0).symm⟩
  exact walkP s0 W hE 

set_option maxRecDepth 100000 in
theorem lifted (os : Os) (started : os.Started) (H : Type) (enc : TypeId × Value → H) :
    ReturnsInHanded {} Tryz.checked os 3 .any (fun w args => (Rows.graphParsesSpec.pre enc Tryz.prog Tryz.f3 Rows.graphParsesRow.domain false w args ∧ laidMetH Tryz.prog Rows.graphParsesRow.laid w) ∧ sizedMet enc Tryz.prog Tryz.f3 (OpenSpec.ofChange Rows.graphParsesSpec) false w args) (Rows.graphParsesSpec.post enc Tryz.prog Tryz.f3 false true false false) :=
  liftG (ts := [9]) (fun W hs h => env_of hs h) started (by kernel_rfl) Tryz.func3 (by kernel_rfl) (by kernel_rfl) (by kernel_rfl) rfl
    (fun ds h => by
      match ds, h with
      | [_], _ => rfl)
    (ChangeSpec.witness_shaped (enc := enc) (C := Tryz.checked) (os := os) (X := fun w _ => laidMetH Tryz.prog laidR w) false (start os) #[.string ByteArray.empty] 8 (World.laidAll_os _ _ _)
      (World.shaped_of_ZipB (by kernel_rfl) (by kernel_rfl)) (by kernel_rfl) (by kernel_rfl) (by kernel_rfl) (start_met os _)) told

theorem f1 : (Rows.graphParsesRow.inPlace == Tryz.prog.inPlace 3) = true := by kernel_rfl
theorem f2 : (Rows.graphParsesRow.unfollowed == Tryz.prog.unfollowed 3) = true := by kernel_rfl
theorem f3 : (Rows.graphParsesRow.recurses == Tryz.prog.recurses 3) = true := by kernel_rfl
theorem f4 : (Rows.graphParsesRow.named == Tryz.prog.varsNamed 3) = true := by kernel_rfl
theorem f5 : (Rows.graphParsesRow.lifted == Tryz.prog.liftsFinal) = true := by rw [whole.a6]; rfl
theorem f6 : (Rows.graphParsesRow.plainKeys == Tryz.prog.plainKeys) = true := by rw [whole.a7]; rfl
theorem facts : joinedFacts Tryz.prog 3 Tryz.f3 Rows.graphParsesSpec Rows.graphParsesRow = true := by
  unfold joinedFacts
  simp only [Bool.and_eq_true]
  repeat' apply And.intro
  all_goals first
    | with_reducible exact whole.a1
    | with_reducible exact whole.a2
    | with_reducible exact whole.a3
    | with_reducible exact whole.a4
    | with_reducible exact whole.a5
    | with_reducible exact f1
    | with_reducible exact f2
    | with_reducible exact f3
    | with_reducible exact f4
    | with_reducible exact f5
    | with_reducible exact f6
    | (as_aux_lemma => kernel_rfl)
theorem over : Rows.GraphParsesSaid :=
  OpenClaim.holds_of_wide 3 Tryz.f3 rfl rfl rfl rfl rfl rfl rfl ⟨rfl, rfl, rfl, rfl, rfl⟩ rfl rfl rfl rfl rfl (by as_aux_lemma => kernel_rfl) Tryz.func3 facts
    (of_decide_eq_true (by kernel_rfl)) (by unfold Func.isWrapper; first | (rw [if_pos (by decide +kernel)]; kernel_rfl) | (rw [if_neg (by decide +kernel)]; exact ⟨rfl, rfl⟩))
    (fun os started H enc _ => lifted os started H enc)

theorem proved : Rows.GraphParsesCardSaid :=
  Claim7.holds_tied_plain_at .later [] [.data, .data, .data, .sentinel, .sentinel, .wider] true (true, "6b4a8f36c6d1294e89699243dbdb87f4ac9e8cbf7f318fd8fb5ec5bd4362f7e6") true
    over (fun _ h => by cases h) (by as_aux_lemma => kernel_rfl) (fun _ h => by cases h) graphParses_row_tie rfl ⟨rfl, rfl⟩ (by as_aux_lemma => kernel_rfl) rfl
    (fun f fn hf hfn => by
      obtain rfl : f = 3 := Option.some.inj ((show Tryz.prog.funcNamed "watershed/watershedlaw09.GraphParses" = some 3 by kernel_rfl).symm.trans hf) |>.symm
      obtain rfl : fn = Tryz.f3 := (Option.some.inj (Tryz.func3.symm.trans hfn)).symm
      exact ⟨by kernel_rfl, fun j t ht => by
        rw [Tryz.params3] at ht
        have hm : t ∈ [9] := by simpa using Array.mem_of_getElem? ht
        have hall : ([9].all fun u => !Tryz.prog.wantsStandIn u) = true := by kernel_rfl
        exact (show Tryz.prog.wantsStandIn t = false by simpa using List.all_eq_true.1 hall t hm)⟩)
    (by as_aux_lemma => kernel_rfl)
#print axioms proved
end Go.Proofs.YtpblpjopinllcaaGreatDoor.graph
