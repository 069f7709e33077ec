/-
  GraphChecks: what is wrong with any graph, its text and its flows are as the document says, and it stays as it is. No condition.
-/
import Derived.Test.YtlbphlhbofjfgaaDoorJGop
import Derived.Test.YtlbphlhbofjfgaaDoorJGck
import Derived.Test.YtlbphlhbofjfgaaDoorTie
import Derived.Test.YtlbphlhbofjfgaaDoorCards
namespace Go.Proofs.YtlbphlhbofjfgaaDoor.graph
open Go.ChangeShapes Go.WideShapes Go.ChangeAt Go.RowKit
open Go.Proofs.YtlbphlhbofjfgaaDoor.opened Go.Proofs.YtlbphlhbofjfgaaDoor.block Go.Proofs.YtlbphlhbofjfgaaDoor.words
noncomputable abbrev laidR : List (String × DataW Unit) := Rows.graphChecksRow.laid
noncomputable def start (os : Os) : World := World.laidAll Tryd.prog os laidR
set_option maxRecDepth 100000 in
theorem start_met (os : Os) (args : Array Value) : laidMetH Tryd.prog laidR ((start os).forCall (fun _ _ => 0) ⟨#[], args, []⟩).memory := by
  rw [MakeChecks.laidMetH_plain _ _ _ (by kernel_rfl)]
  exact laidMet_laidAll _ (by kernel_rfl) (by kernel_rfl)
theorem gTab9 : Tryd.prog.globalNamed "internal/strconv.uint64pow10" = some 1 := by kernel_rfl
theorem gTab9T : (Tryd.prog.globals[1]?).map (·.type) = some 148 := by kernel_rfl
abbrev Env9 (W : World) : Prop := KT W ∧ Tab10 W
set_option maxRecDepth 100000 in
theorem env_of {W : World} (_hS : W.ShapedOpen Tryd.prog) (hL : laidMetH Tryd.prog laidR W) : Env9 W := by
  rw [MakeChecks.laidMetH_plain _ _ _ (by kernel_rfl)] at hL
  exact ⟨kt_of hL.tail.tail.tail, Lib.tabIs_of_head gTab9 gTab9T Tryd.underlying148 Tryd.underlying115 (by kernel_rfl) (by kernel_rfl) hL.tail.tail⟩
set_option maxRecDepth 100000 in
theorem told (W : World) (args : Array Value) (hE : Env9 W) (h : Fed Tryd.prog W [27] args) : Calls Tryd.prog 3 args W fun e W' => e = .returned (.bool true) ∧ Below W.heap.size W W' := by
  obtain ⟨v0, rfl⟩ := args1 h.count
  obtain ⟨⟨_, o0⟩, r0⟩ := h.each 0 27 v0 rfl rfl
  obtain ⟨a0, q0⟩ := r0 opens_gr
  obtain ⟨V0, g0, rfl, i0, l0⟩ := top_gr o0 q0
  exact walkC V0 g0 i0 W hE l0

set_option maxRecDepth 100000 in
theorem lifted (os : Os) (started : os.Started) (H : Type) (enc : TypeId × Value → H) :
    ReturnsInHanded {} Tryd.checked os 3 .any (fun w args => (Rows.graphChecksSpec.pre enc Tryd.prog Tryd.f3 Rows.graphChecksRow.domain false w args ∧ laidMetH Tryd.prog Rows.graphChecksRow.laid w) ∧ sizedMet enc Tryd.prog Tryd.f3 (OpenSpec.ofChange Rows.graphChecksSpec) false w args) (Rows.graphChecksSpec.post enc Tryd.prog Tryd.f3 false true false false) :=
  liftG (ts := [27]) (fun W hs h => env_of hs h) started (by kernel_rfl) Tryd.func3 (by kernel_rfl) (by kernel_rfl) (by kernel_rfl) rfl
    (fun ds h => by
      match ds, h with
      | [_], _ => rfl)
    (ChangeSpec.witness_shaped (enc := enc) (C := Tryd.checked) (os := os) (X := fun w _ => laidMetH Tryd.prog laidR w) false (start os) #[.agg #[.slice none 0 0, .slice none 0 0, .slice none 0 0, .slice none 0 0]] 8 (World.laidAll_os _ _ _)
      (World.shaped_of_ZipB (by kernel_rfl) (by kernel_rfl)) (by kernel_rfl) (by kernel_rfl) (by kernel_rfl) (start_met os _)) told

theorem over : Rows.GraphChecksSaid :=
  OpenClaim.holds_of_wide 3 Tryd.f3 rfl rfl rfl rfl rfl rfl rfl ⟨rfl, rfl, rfl, rfl, rfl⟩ rfl rfl rfl rfl rfl (by kernel_rfl) Tryd.func3 (by kernel_rfl)
    (of_decide_eq_true (by kernel_rfl)) (by unfold Func.isWrapper; first | (rw [if_pos (by decide +kernel)]; kernel_rfl) | (rw [if_neg (by decide +kernel)]; exact ⟨rfl, rfl⟩))
    (fun os started H enc _ => lifted os started H enc)

theorem proved : Rows.GraphChecksCardSaid :=
  Claim7.holds_tied_plain_at .later [] [.data, .data, .data, .wider] true (true, "bae4e6377b2ffe1bc4d83e509784c65a4166f0792437d748dc2dbb9e37d737ef") false
    over (fun _ h => by cases h) (by kernel_rfl) (fun _ h => by cases h) graphChecks_row_tie rfl ⟨rfl, rfl⟩ (by kernel_rfl) rfl
    (fun f fn hf hfn => by
      obtain rfl : f = 3 := Option.some.inj ((show Tryd.prog.funcNamed "watershed/watershedlaw09.GraphChecks" = some 3 by kernel_rfl).symm.trans hf) |>.symm
      obtain rfl : fn = Tryd.f3 := (Option.some.inj (Tryd.func3.symm.trans hfn)).symm
      exact ⟨by kernel_rfl, fun j t ht => by
        rw [Tryd.params3] at ht
        have hm : t ∈ [27] := by simpa using Array.mem_of_getElem? ht
        have hall : ([27].all fun u => !Tryd.prog.wantsStandIn u) = true := by kernel_rfl
        exact (show Tryd.prog.wantsStandIn t = false by simpa using List.all_eq_true.1 hall t hm)⟩)
    (by kernel_rfl)
#print axioms proved
end Go.Proofs.YtlbphlhbofjfgaaDoor.graph
