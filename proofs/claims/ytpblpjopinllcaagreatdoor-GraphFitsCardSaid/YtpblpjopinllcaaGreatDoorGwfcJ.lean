/-
  GraphFits: what fits at a place of a graph still fits with lesser rounds, in any epoch, and the first time of the place's depth always does. No condition.
-/
import Derived.Test.YtpblpjopinllcaaGreatDoorJTb
import Derived.Test.YtpblpjopinllcaaGreatDoorJGgr
import Derived.Test.YtpblpjopinllcaaGreatDoorJGfx
import Derived.Test.YtpblpjopinllcaaGreatDoorTie
import Derived.Test.YtpblpjopinllcaaGreatDoorCards
set_option linter.unusedSimpArgs false
set_option linter.unusedVariables false
namespace Go.Proofs.YtpblpjopinllcaaGreatDoor.graph
open Go.ChangeShapes Go.WideShapes Go.ChangeAt Go.RowKit
open Go.Proofs.YtpblpjopinllcaaGreatDoor.opened Go.Proofs.YtpblpjopinllcaaGreatDoor.block Go.Proofs.YtpblpjopinllcaaGreatDoor.words
noncomputable abbrev laidR : List (String × DataW Unit) := Rows.graphFitsRow.laid
noncomputable def start (os : Os) : World := World.laidAll Tryz.prog os laidR
set_option maxRecDepth 100000 in
theorem start_met (os : Os) (args : Array Value) : laidMetH Tryz.prog laidR ((start os).forCall (fun _ _ => 0) ⟨#[], args, []⟩).memory := by
  rw [MakeChecks.laidMetH_plain _ _ _ (by kernel_rfl)]
  exact laidMet_laidAll _ (by kernel_rfl) (by kernel_rfl)
theorem gTab9 : Tryz.prog.globalNamed "internal/strconv.uint64pow10" = some 2 := by kernel_rfl
theorem gTab9T : (Tryz.prog.globals[2]?).map (·.type) = some 374 := by kernel_rfl
theorem gSyn : Tryz.prog.globalNamed "strconv.ErrSyntax" = some 5 := by kernel_rfl
theorem gSynT : (Tryz.prog.globals[5]?).map (·.type) = some 227 := by kernel_rfl
theorem gRng : Tryz.prog.globalNamed "strconv.ErrRange" = some 6 := by kernel_rfl
theorem gRngT : (Tryz.prog.globals[6]?).map (·.type) = some 227 := by kernel_rfl
theorem star : "*" ++ "errors.errorString" = "*errors.errorString" := by decide
theorem rowErr (u : TypeId) (h : Tryz.prog.typeName? 3 u = some "*errors.errorString") : u = 424 :=
  typeName_ptr_named (nm := "errors.errorString") (by rw [star]; kernel_rfl) (by kernel_rfl) (by decide) u (by rw [star]; exact h)
set_option maxRecDepth 100000 in
theorem env_of {W : World} (hS : W.ShapedOpen Tryz.prog) (hL : laidMetH Tryz.prog laidR W) : EnvG W := by
  rw [MakeChecks.laidMetH_plain _ _ _ (by kernel_rfl)] at hL
  have h5 := hL.tail.tail.tail
  obtain ⟨a1, s1, hr, -, -, -⟩ := laid_sentinel h5 gRng gRngT Tryz.underlying227 rowErr Tryz.underlying424 Tryz.underlying425 rfl rfl Tryz.underlying9 (by kernel_rfl) (by kernel_rfl)
  obtain ⟨a0, s0, hs, -, -, -⟩ := laid_sentinel h5.tail gSyn gSynT Tryz.underlying227 rowErr Tryz.underlying424 Tryz.underlying425 rfl rfl Tryz.underlying9 (by kernel_rfl) (by kernel_rfl)
  exact ⟨⟨Lib.tabIs_of_head gTab9 gTab9T Tryz.underlying374 Tryz.underlying64 (by kernel_rfl) (by kernel_rfl) hL.tail.tail,
    cell_of_shapedOpen_int (P := Tryz.prog) (g := 1) (t := 3) (zero := #[.int .i64 0]) hS (of_decide_eq_true (by kernel_rfl)) (by kernel_rfl) rfl (by kernel_rfl) (by kernel_rfl) Tryz.underlying3,
    ⟨_, _, hs⟩, ⟨_, _, hr⟩⟩, kt_of h5.tail.tail⟩
set_option maxRecDepth 100000 in
theorem told (W : World) (args : Array Value) (hE : EnvG W) (h : Fed Tryz.prog W [36, 3, 63, 63] args) : Calls Tryz.prog 6 args W fun e W' => e = .returned (.bool true) ∧ Below W.heap.size W W' := by
  obtain ⟨v0, v1, v2, v3, rfl⟩ := args4 h.count
  obtain ⟨⟨_, o0⟩, r0⟩ := h.each 0 36 v0 rfl rfl
  obtain ⟨⟨_, o1⟩, r1⟩ := h.each 1 3 v1 rfl rfl
  obtain ⟨⟨_, o2⟩, r2⟩ := h.each 2 63 v2 rfl rfl
  obtain ⟨⟨_, o3⟩, r3⟩ := h.each 3 63 v3 rfl rfl
  obtain ⟨a0, q0⟩ := r0 opens_gr
  obtain ⟨V0, g0, rfl, i0, l0⟩ := top_gr o0 q0
  obtain ⟨a1, q1⟩ := r1 (opens_int Tryz.underlying3)
  obtain ⟨rfl, -⟩ := top_int Tryz.underlying3 o1 q1
  obtain ⟨a2, q2⟩ := r2 Go.Proofs.YtpblpjopinllcaaGreatDoor.stamp.opens_time
  obtain ⟨t2, i2, rfl⟩ := Go.Proofs.YtpblpjopinllcaaGreatDoor.stamp.top_time o2 q2
  obtain ⟨a3, q3⟩ := r3 Go.Proofs.YtpblpjopinllcaaGreatDoor.stamp.opens_time
  obtain ⟨t3, i3, rfl⟩ := Go.Proofs.YtpblpjopinllcaaGreatDoor.stamp.top_time o3 q3
  exact walkF V0 g0 i0 a1 t2 i2 t3 i3 W hE l0

set_option maxRecDepth 100000 in
theorem lifted (os : Os) (started : os.Started) (H : Type) (enc : TypeId × Value → H) :
    ReturnsInHanded {} Tryz.checked os 6 .any (fun w args => (Rows.graphFitsSpec.pre enc Tryz.prog Tryz.f6 Rows.graphFitsRow.domain false w args ∧ laidMetH Tryz.prog Rows.graphFitsRow.laid w) ∧ sizedMet enc Tryz.prog Tryz.f6 (OpenSpec.ofChange Rows.graphFitsSpec) false w args) (Rows.graphFitsSpec.post enc Tryz.prog Tryz.f6 false true false false) :=
  liftG (ts := [36, 3, 63, 63]) (fun W hs h => env_of hs h) started (by kernel_rfl) Tryz.func6 (by kernel_rfl) (by kernel_rfl) (by kernel_rfl) rfl
    (fun ds h => by
      match ds, h with
      | [_, _, _, _], _ => rfl)
    (ChangeSpec.witness_shaped (enc := enc) (C := Tryz.checked) (os := os) (X := fun w _ => laidMetH Tryz.prog laidR w) false (start os) #[.agg #[.slice none 0 0, .slice none 0 0, .slice none 0 0, .slice none 0 0], .int .i64 0, .agg #[.int .u32 0, .int .i64 0, .int .u32 0, .int .u32 0, .int .u32 0], .agg #[.int .u32 0, .int .i64 0, .int .u32 0, .int .u32 0, .int .u32 0]] 8 (World.laidAll_os _ _ _)
      (World.shaped_of_ZipB (by kernel_rfl) (by kernel_rfl)) (by kernel_rfl) (by kernel_rfl) (by kernel_rfl) (start_met os _)) told

theorem f1 : (Rows.graphFitsRow.inPlace == Tryz.prog.inPlace 6) = true := by kernel_rfl
theorem f2 : (Rows.graphFitsRow.unfollowed == Tryz.prog.unfollowed 6) = true := by kernel_rfl
theorem f3 : (Rows.graphFitsRow.recurses == Tryz.prog.recurses 6) = true := by kernel_rfl
theorem f4 : (Rows.graphFitsRow.named == Tryz.prog.varsNamed 6) = true := by kernel_rfl
theorem f5 : (Rows.graphFitsRow.lifted == Tryz.prog.liftsFinal) = true := by rw [whole.a6]; rfl
theorem f6 : (Rows.graphFitsRow.plainKeys == Tryz.prog.plainKeys) = true := by rw [whole.a7]; rfl
theorem facts : joinedFacts Tryz.prog 6 Tryz.f6 Rows.graphFitsSpec Rows.graphFitsRow = true := by
  unfold joinedFacts
  simp only [Bool.and_eq_true]
  repeat' apply And.intro
  all_goals first
    | with_reducible exact whole.a1
    | with_reducible exact whole.a2
    | with_reducible exact whole.a3
    | with_reducible exact whole.a4
    | with_reducible exact whole.a5
    | with_reducible exact f1
    | with_reducible exact f2
    | with_reducible exact f3
    | with_reducible exact f4
    | with_reducible exact f5
    | with_reducible exact f6
    | (as_aux_lemma => kernel_rfl)
theorem over : Rows.GraphFitsSaid :=
  OpenClaim.holds_of_wide 6 Tryz.f6 rfl rfl rfl rfl rfl rfl rfl ⟨rfl, rfl, rfl, rfl, rfl⟩ rfl rfl rfl rfl rfl (by as_aux_lemma => kernel_rfl) Tryz.func6 facts
    (of_decide_eq_true (by kernel_rfl)) (by unfold Func.isWrapper; first | (rw [if_pos (by decide +kernel)]; kernel_rfl) | (rw [if_neg (by decide +kernel)]; exact ⟨rfl, rfl⟩))
    (fun os started H enc _ => lifted os started H enc)

theorem proved : Rows.GraphFitsCardSaid :=
  Claim7.holds_tied_plain_at .later [] [.data, .data, .data, .sentinel, .sentinel, .wider] true (true, "6b4a8f36c6d1294e89699243dbdb87f4ac9e8cbf7f318fd8fb5ec5bd4362f7e6") true
    over (fun _ h => by cases h) (by as_aux_lemma => kernel_rfl) (fun _ h => by cases h) graphFits_row_tie rfl ⟨rfl, rfl⟩ (by as_aux_lemma => kernel_rfl) rfl
    (fun f fn hf hfn => by
      obtain rfl : f = 6 := Option.some.inj ((show Tryz.prog.funcNamed "watershed/watershedlaw09.GraphFits" = some 6 by kernel_rfl).symm.trans hf) |>.symm
      obtain rfl : fn = Tryz.f6 := (Option.some.inj (Tryz.func6.symm.trans hfn)).symm
      exact ⟨by kernel_rfl, fun j t ht => by
        rw [Tryz.params6] at ht
        have hm : t ∈ [36, 3, 63, 63] := by simpa using Array.mem_of_getElem? ht
        have hall : ([36, 3, 63, 63].all fun u => !Tryz.prog.wantsStandIn u) = true := by kernel_rfl
        exact (show Tryz.prog.wantsStandIn t = false by simpa using List.all_eq_true.1 hall t hm)⟩)
    (by as_aux_lemma => kernel_rfl)
#print axioms proved
end Go.Proofs.YtpblpjopinllcaaGreatDoor.graph
