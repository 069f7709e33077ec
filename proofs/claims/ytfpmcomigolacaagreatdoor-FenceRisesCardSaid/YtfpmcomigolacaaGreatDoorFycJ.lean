/-
  FenceRises: as the document says. No condition.
-/
import Derived.Test.YtfpmcomigolacaaGreatDoorJUw25
import Derived.Test.YtfpmcomigolacaaGreatDoorJUy3
import Derived.Test.YtfpmcomigolacaaGreatDoorJUfx
import Derived.Test.YtfpmcomigolacaaGreatDoorTie
import Derived.Test.YtfpmcomigolacaaGreatDoorCards
set_option linter.unusedSimpArgs false
set_option linter.unusedVariables false
namespace Go.Proofs.YtfpmcomigolacaaGreatDoor.wal
open Go.ChangeShapes Go.WideShapes Go.ChangeAt Go.RowKit
open Go.Proofs.YtfpmcomigolacaaGreatDoor.opened Go.Proofs.YtfpmcomigolacaaGreatDoor.block Go.Proofs.YtfpmcomigolacaaGreatDoor.words
noncomputable abbrev laidR : List (String × DataW Unit) := Rows.fenceRisesRow.laid
noncomputable def start (os : Os) : World := World.laidAll Tryz.prog os laidR
set_option maxRecDepth 100000 in
theorem start_met (os : Os) (args : Array Value) : laidMetH Tryz.prog laidR ((start os).forCall (fun _ _ => 0) ⟨#[], args, []⟩).memory := by
  rw [MakeChecks.laidMetH_plain _ _ _ (by kernel_rfl)]
  exact laidMet_laidAll _ (by kernel_rfl) (by kernel_rfl)
theorem gTab9 : Tryz.prog.globalNamed "internal/strconv.uint64pow10" = some 0 := by kernel_rfl
theorem gTab9T : (Tryz.prog.globals[0]?).map (·.type) = some 180 := by kernel_rfl
theorem gSyn : Tryz.prog.globalNamed "strconv.ErrSyntax" = some 1 := by kernel_rfl
theorem gSynT : (Tryz.prog.globals[1]?).map (·.type) = some 130 := by kernel_rfl
theorem gRng : Tryz.prog.globalNamed "strconv.ErrRange" = some 2 := by kernel_rfl
theorem gRngT : (Tryz.prog.globals[2]?).map (·.type) = some 130 := by kernel_rfl
theorem star : "*" ++ "errors.errorString" = "*errors.errorString" := by decide
theorem rowErr (u : TypeId) (h : Tryz.prog.typeName? 3 u = some "*errors.errorString") : u = 191 :=
  typeName_ptr_named (nm := "errors.errorString") (by rw [star]; kernel_rfl) (by kernel_rfl) (by decide) u (by rw [star]; exact h)
set_option maxRecDepth 100000 in
theorem env_of {W : World} (hS : W.ShapedOpen Tryz.prog) (hL : laidMetH Tryz.prog laidR W) : Env W := by
  rw [MakeChecks.laidMetH_plain _ _ _ (by kernel_rfl)] at hL
  have h5 := hL.tail.tail.tail
  obtain ⟨a1, s1, hr, -, -, -⟩ := laid_sentinel h5 gRng gRngT Tryz.underlying130 rowErr Tryz.underlying191 Tryz.underlying192 rfl rfl Tryz.underlying9 (by kernel_rfl) (by kernel_rfl)
  obtain ⟨a0, s0, hs, -, -, -⟩ := laid_sentinel h5.tail gSyn gSynT Tryz.underlying130 rowErr Tryz.underlying191 Tryz.underlying192 rfl rfl Tryz.underlying9 (by kernel_rfl) (by kernel_rfl)
  exact ⟨Lib.tabIs_of_head gTab9 gTab9T Tryz.underlying180 Tryz.underlying25 (by kernel_rfl) (by kernel_rfl) hL.tail.tail,
    trivial,
    ⟨_, _, hs⟩, ⟨_, _, hr⟩⟩
set_option maxRecDepth 100000 in
theorem told (W : World) (args : Array Value) (hE : Env W) (h : Fed Tryz.prog W [3, 47] args) : Calls Tryz.prog 5 args W fun e W' => e = .returned (.bool true) ∧ Below W.heap.size W W' := by
  obtain ⟨v0, v1, rfl⟩ := args2 h.count
  obtain ⟨⟨_, o0⟩, r0⟩ := h.each 0 3 v0 rfl rfl
  obtain ⟨⟨_, o1⟩, r1⟩ := h.each 1 47 v1 rfl rfl
  obtain ⟨a0, q0⟩ := r0 (opens_int Tryz.underlying3)
  obtain ⟨rfl, z0⟩ := top_int Tryz.underlying3 o0 q0
  have b0 := bounds_i64 z0
  obtain ⟨a1, q1⟩ := r1 opens_actsf
  obtain ⟨A1, c1, L1, rfl, l1, m1⟩ := top_actsf o1 q1
  exact Go.Proofs.YtfpmcomigolacaaGreatDoor.fence.walkRises a0 A1 c1 L1 m1 hE l1

set_option maxRecDepth 100000 in
theorem lifted (os : Os) (started : os.Started) (H : Type) (enc : TypeId × Value → H) :
    ReturnsInHanded {} Tryz.checked os 5 .any (fun w args => (Rows.fenceRisesSpec.pre enc Tryz.prog Tryz.f5 Rows.fenceRisesRow.domain false w args ∧ laidMetH Tryz.prog Rows.fenceRisesRow.laid w) ∧ sizedMet enc Tryz.prog Tryz.f5 (OpenSpec.ofChange Rows.fenceRisesSpec) false w args) (Rows.fenceRisesSpec.post enc Tryz.prog Tryz.f5 false true false false) :=
  liftG (ts := [3, 47]) (fun W hs h => env_of hs h) started (by kernel_rfl) Tryz.func5 (by kernel_rfl) (by kernel_rfl) (by kernel_rfl) rfl
    (fun ds h => by
      match ds, h with
      | [_, _], _ => rfl)
    (ChangeSpec.witness_shaped (enc := enc) (C := Tryz.checked) (os := os) (X := fun w _ => laidMetH Tryz.prog laidR w) false (start os) #[.int .i64 0, .slice none 0 0] 8 (World.laidAll_os _ _ _)
      (World.shaped_of_ZipB (by kernel_rfl) (by kernel_rfl)) (by kernel_rfl) (by kernel_rfl) (by kernel_rfl) (start_met os _)) told

theorem f1 : (Rows.fenceRisesRow.inPlace == Tryz.prog.inPlace 5) = true := by kernel_rfl
theorem f2 : (Rows.fenceRisesRow.unfollowed == Tryz.prog.unfollowed 5) = true := by kernel_rfl
theorem f3 : (Rows.fenceRisesRow.recurses == Tryz.prog.recurses 5) = true := by kernel_rfl
theorem f4 : (Rows.fenceRisesRow.named == Tryz.prog.varsNamed 5) = true := by kernel_rfl
theorem f5 : (Rows.fenceRisesRow.lifted == Tryz.prog.liftsFinal) = true := by rw [whole.a6]; rfl
theorem f6 : (Rows.fenceRisesRow.plainKeys == Tryz.prog.plainKeys) = true := by rw [whole.a7]; rfl
theorem facts : joinedFacts Tryz.prog 5 Tryz.f5 Rows.fenceRisesSpec Rows.fenceRisesRow = true := by
  unfold joinedFacts
  simp only [Bool.and_eq_true]
  repeat' apply And.intro
  all_goals first
    | with_reducible exact whole.a1
    | with_reducible exact whole.a2
    | with_reducible exact whole.a3
    | with_reducible exact whole.a4
    | with_reducible exact whole.a5
    | with_reducible exact f1
    | with_reducible exact f2
    | with_reducible exact f3
    | with_reducible exact f4
    | with_reducible exact f5
    | with_reducible exact f6
    | (as_aux_lemma => kernel_rfl)
theorem over : Rows.FenceRisesSaid :=
  OpenClaim.holds_of_wide 5 Tryz.f5 rfl rfl rfl rfl rfl rfl rfl ⟨rfl, rfl, rfl, rfl, rfl⟩ rfl rfl rfl rfl rfl (by as_aux_lemma => kernel_rfl) Tryz.func5 facts
    (of_decide_eq_true (by kernel_rfl)) (by unfold Func.isWrapper; first | (rw [if_pos (by decide +kernel)]; kernel_rfl) | (rw [if_neg (by decide +kernel)]; exact ⟨rfl, rfl⟩))
    (fun os started H enc _ => lifted os started H enc)

theorem proved : Rows.FenceRisesCardSaid :=
  Claim7.holds_tied_plain_at .later [] [.data, .data, .data, .sentinel, .sentinel] true (true, "f2245c8633eb6a97a1fa816e56301a026ac2d924d21c043940f88253e1b4be58") true
    over (fun _ h => by cases h) (by as_aux_lemma => kernel_rfl) (fun _ h => by cases h) fenceRises_row_tie rfl ⟨rfl, rfl⟩ (by as_aux_lemma => kernel_rfl) rfl
    (fun f fn hf hfn => by
      obtain rfl : f = 5 := Option.some.inj ((show Tryz.prog.funcNamed "watershed/watershedlaw15.FenceRises" = some 5 by kernel_rfl).symm.trans hf) |>.symm
      obtain rfl : fn = Tryz.f5 := (Option.some.inj (Tryz.func5.symm.trans hfn)).symm
      exact ⟨by kernel_rfl, fun j t ht => by
        rw [Tryz.params5] at ht
        have hm : t ∈ [3, 47] := by simpa using Array.mem_of_getElem? ht
        have hall : ([3, 47].all fun u => !Tryz.prog.wantsStandIn u) = true := by kernel_rfl
        exact (show Tryz.prog.wantsStandIn t = false by simpa using List.all_eq_true.1 hall t hm)⟩)
    (by as_aux_lemma => kernel_rfl)
#print axioms proved
end Go.Proofs.YtfpmcomigolacaaGreatDoor.wal
