/-
  FenceClaims: as the document says. No condition.
-/
import Derived.Test.YtfpmcomigolacaaGreatDoorJUw25
import Derived.Test.YtfpmcomigolacaaGreatDoorJFm3
import Derived.Test.YtfpmcomigolacaaGreatDoorJUfx
import Derived.Test.YtfpmcomigolacaaGreatDoorTie
import Derived.Test.YtfpmcomigolacaaGreatDoorCards
set_option linter.unusedSimpArgs false
set_option linter.unusedVariables false
namespace Go.Proofs.YtfpmcomigolacaaGreatDoor.wal
open Go.ChangeShapes Go.WideShapes Go.ChangeAt Go.RowKit
open Go.Proofs.YtfpmcomigolacaaGreatDoor.opened Go.Proofs.YtfpmcomigolacaaGreatDoor.block Go.Proofs.YtfpmcomigolacaaGreatDoor.words
noncomputable abbrev laidR : List (String × DataW Unit) := Rows.fenceClaimsRow.laid
noncomputable def start (os : Os) : World := World.laidAll Tryz.prog os laidR
set_option maxRecDepth 100000 in
theorem start_met (os : Os) (args : Array Value) : laidMetH Tryz.prog laidR ((start os).forCall (fun _ _ => 0) ⟨#[], args, []⟩).memory := by
  rw [MakeChecks.laidMetH_plain _ _ _ (by kernel_rfl)]
  exact laidMet_laidAll _ (by kernel_rfl) (by kernel_rfl)
theorem gTab9 : Tryz.prog.globalNamed "internal/strconv.uint64pow10" = some 0 := by kernel_rfl
theorem gTab9T : (Tryz.prog.globals[0]?).map (·.type) = some 180 := by kernel_rfl
theorem gSyn : Tryz.prog.globalNamed "strconv.ErrSyntax" = some 1 := by kernel_rfl
theorem gSynT : (Tryz.prog.globals[1]?).map (·.type) = some 130 := by kernel_rfl
theorem gRng : Tryz.prog.globalNamed "strconv.ErrRange" = some 2 := by kernel_rfl
theorem gRngT : (Tryz.prog.globals[2]?).map (·.type) = some 130 := by kernel_rfl
theorem star : "*" ++ "errors.errorString" = "*errors.errorString" := by decide
theorem rowErr (u : TypeId) (h : Tryz.prog.typeName? 3 u = some "*errors.errorString") : u = 191 :=
  typeName_ptr_named (nm := "errors.errorString") (by rw [star]; kernel_rfl) (by kernel_rfl) (by decide) u (by rw [star]; exact h)
set_option maxRecDepth 100000 in
theorem env_of {W : World} (hS : W.ShapedOpen Tryz.prog) (hL : laidMetH Tryz.prog laidR W) : Env W := by
  rw [MakeChecks.laidMetH_plain _ _ _ (by kernel_rfl)] at hL
  have h5 := hL.tail.tail.tail
  obtain ⟨a1, s1, hr, -, -, -⟩ := laid_sentinel h5 gRng gRngT Tryz.underlying130 rowErr Tryz.underlying191 Tryz.underlying192 rfl rfl Tryz.underlying9 (by kernel_rfl) (by kernel_rfl)
  obtain ⟨a0, s0, hs, -, -, -⟩ := laid_sentinel h5.tail gSyn gSynT Tryz.underlying130 rowErr Tryz.underlying191 Tryz.underlying192 rfl rfl Tryz.underlying9 (by kernel_rfl) (by kernel_rfl)
  exact ⟨Lib.tabIs_of_head gTab9 gTab9T Tryz.underlying180 Tryz.underlying25 (by kernel_rfl) (by kernel_rfl) hL.tail.tail,
    trivial,
    ⟨_, _, hs⟩, ⟨_, _, hr⟩⟩
set_option maxRecDepth 100000 in
theorem told (W : World) (args : Array Value) (hE : Env W) (h : Fed Tryz.prog W [23, 9, 23] args) : Calls Tryz.prog 6 args W fun e W' => e = .returned (.bool true) ∧ Below W.heap.size W W' := by
  obtain ⟨v0, v1, v2, rfl⟩ := args3 h.count
  obtain ⟨⟨_, o0⟩, r0⟩ := h.each 0 23 v0 rfl rfl
  obtain ⟨⟨_, o1⟩, r1⟩ := h.each 1 9 v1 rfl rfl
  obtain ⟨⟨_, o2⟩, r2⟩ := h.each 2 23 v2 rfl rfl
  obtain ⟨a0, q0⟩ := r0 opens_ints
  obtain ⟨A0, c0, L0, rfl, x0, m0, l0⟩ := top_ints o0 q0
  obtain ⟨a1, q1⟩ := r1 (opens_str Tryz.underlying9)
  obtain ⟨rfl, -⟩ := top_str Tryz.underlying9 o1 q1
  obtain ⟨s1, rfl⟩ : ∃ s : Bs, a1 = ⟨s.toArray⟩ := ⟨a1.data.toList, (Lib.mk_data a1).symm⟩
  obtain ⟨a2, q2⟩ := r2 opens_ints
  obtain ⟨A2, c2, L2, rfl, x2, m2, l2⟩ := top_ints o2 q2
  exact Go.Proofs.YtfpmcomigolacaaGreatDoor.fence.walkClaims A0 c0 L0 s1 A2 c2 L2 (by omega) hE l0 x0 x2 m2 l2

set_option maxRecDepth 100000 in
theorem lifted (os : Os) (started : os.Started) (H : Type) (enc : TypeId × Value → H) :
    ReturnsInHanded {} Tryz.checked os 6 .any (fun w args => (Rows.fenceClaimsSpec.pre enc Tryz.prog Tryz.f6 Rows.fenceClaimsRow.domain false w args ∧ laidMetH Tryz.prog Rows.fenceClaimsRow.laid w) ∧ sizedMet enc Tryz.prog Tryz.f6 (OpenSpec.ofChange Rows.fenceClaimsSpec) false w args) (Rows.fenceClaimsSpec.post enc Tryz.prog Tryz.f6 false true false false) :=
  liftG (ts := [23, 9, 23]) (fun W hs h => env_of hs h) started (by kernel_rfl) Tryz.func6 (by kernel_rfl) (by kernel_rfl) (by kernel_rfl) rfl
    (fun ds h => by
      match ds, h with
      | [_, _, _], _ => rfl)
    (ChangeSpec.witness_shaped (enc := enc) (C := Tryz.checked) (os := os) (X := fun w _ => laidMetH Tryz.prog laidR w) false (start os) #[.slice none 0 0, .string ByteArray.empty, .slice none 0 0] 8 (World.laidAll_os _ _ _)
      (World.shaped_of_ZipB (by kernel_rfl) (by kernel_rfl)) (by kernel_rfl) (by kernel_rfl) (by kernel_rfl) (start_met os _)) told

theorem f1 : (Rows.fenceClaimsRow.inPlace == Tryz.prog.inPlace 6) = true := by kernel_rfl
theorem f2 : (Rows.fenceClaimsRow.unfollowed == Tryz.prog.unfollowed 6) = true := by kernel_rfl
theorem f3 : (Rows.fenceClaimsRow.recurses == Tryz.prog.recurses 6) = true := by kernel_rfl
theorem f4 : (Rows.fenceClaimsRow.named == Tryz.prog.varsNamed 6) = true := by kernel_rfl
theorem f5 : (Rows.fenceClaimsRow.lifted == Tryz.prog.liftsFinal) = true := by rw [whole.a6]; rfl
theorem f6 : (Rows.fenceClaimsRow.plainKeys == Tryz.prog.plainKeys) = true := by rw [whole.a7]; rfl
theorem facts : joinedFacts Tryz.prog 6 Tryz.f6 Rows.fenceClaimsSpec Rows.fenceClaimsRow = true := by
  unfold joinedFacts
  simp only [Bool.and_eq_true]
  repeat' apply And.intro
  all_goals first
    | with_reducible exact whole.a1
    | with_reducible exact whole.a2
    | with_reducible exact whole.a3
    | with_reducible exact whole.a4
    | with_reducible exact whole.a5
    | with_reducible exact f1
    | with_reducible exact f2
    | with_reducible exact f3
    | with_reducible exact f4
    | with_reducible exact f5
    | with_reducible exact f6
    | (as_aux_lemma => kernel_rfl)
theorem over : Rows.FenceClaimsSaid :=
  OpenClaim.holds_of_wide 6 Tryz.f6 rfl rfl rfl rfl rfl rfl rfl ⟨rfl, rfl, rfl, rfl, rfl⟩ rfl rfl rfl rfl rfl (by as_aux_lemma => kernel_rfl) Tryz.func6 facts
    (of_decide_eq_true (by kernel_rfl)) (by unfold Func.isWrapper; first | (rw [if_pos (by decide +kernel)]; kernel_rfl) | (rw [if_neg (by decide +kernel)]; exact ⟨rfl, rfl⟩))
    (fun os started H enc _ => lifted os started H enc)

theorem proved : Rows.FenceClaimsCardSaid :=
  Claim7.holds_tied_plain_at .later [] [.data, .data, .data, .sentinel, .sentinel] true (true, "f2245c8633eb6a97a1fa816e56301a026ac2d924d21c043940f88253e1b4be58") true
    over (fun _ h => by cases h) (by as_aux_lemma => kernel_rfl) (fun _ h => by cases h) fenceClaims_row_tie rfl ⟨rfl, rfl⟩ (by as_aux_lemma => kernel_rfl) rfl
    (fun f fn hf hfn => by
      obtain rfl : f = 6 := Option.some.inj ((show Tryz.prog.funcNamed "watershed/watershedlaw15.FenceClaims" = some 6 by kernel_rfl).symm.trans hf) |>.symm
      obtain rfl : fn = Tryz.f6 := (Option.some.inj (Tryz.func6.symm.trans hfn)).symm
      exact ⟨by kernel_rfl, fun j t ht => by
        rw [Tryz.params6] at ht
        have hm : t ∈ [23, 9, 23] := by simpa using Array.mem_of_getElem? ht
        have hall : ([23, 9, 23].all fun u => !Tryz.prog.wantsStandIn u) = true := by kernel_rfl
        exact (show Tryz.prog.wantsStandIn t = false by simpa using List.all_eq_true.1 hall t hm)⟩)
    (by as_aux_lemma => kernel_rfl)
#print axioms proved
end Go.Proofs.YtfpmcomigolacaaGreatDoor.wal
