/-
  GraphPlaces: of any graph the loop of any place, the way through any operator, and whether any time may be at any place, are as the document says. No condition.
-/
import Derived.Test.YtlbphlhbofjfgaaDoorJTb
import Derived.Test.YtlbphlhbofjfgaaDoorJGpl
import Derived.Test.YtlbphlhbofjfgaaDoorTie
import Derived.Test.YtlbphlhbofjfgaaDoorCards
namespace Go.Proofs.YtlbphlhbofjfgaaDoor.graph
open Go.ChangeShapes Go.WideShapes Go.ChangeAt Go.RowKit
open Go.Proofs.YtlbphlhbofjfgaaDoor.opened Go.Proofs.YtlbphlhbofjfgaaDoor.block Go.Proofs.YtlbphlhbofjfgaaDoor.words
noncomputable abbrev laidR : List (String × DataW Unit) := Rows.graphPlacesRow.laid
noncomputable def start (os : Os) : World := World.laidAll Tryd.prog os laidR
set_option maxRecDepth 100000 in
theorem start_met (os : Os) (args : Array Value) : laidMetH Tryd.prog laidR ((start os).forCall (fun _ _ => 0) ⟨#[], args, []⟩).memory := by
  rw [MakeChecks.laidMetH_plain _ _ _ (by kernel_rfl)]
  exact laidMet_laidAll _ (by kernel_rfl) (by kernel_rfl)
set_option maxRecDepth 100000 in
theorem env_of {W : World} (_hS : W.ShapedOpen Tryd.prog) (hL : laidMetH Tryd.prog laidR W) : KT W := by
  rw [MakeChecks.laidMetH_plain _ _ _ (by kernel_rfl)] at hL
  exact kt_of hL
set_option maxRecDepth 100000 in
theorem told (W : World) (args : Array Value) (hE : KT W) (h : Fed Tryd.prog W [27, 3, 51] args) : Calls Tryd.prog 4 args W fun e W' => e = .returned (.bool true) ∧ Below W.heap.size W W' := by
  obtain ⟨v0, v1, v2, rfl⟩ := args3 h.count
  obtain ⟨⟨_, o0⟩, r0⟩ := h.each 0 27 v0 rfl rfl
  obtain ⟨⟨_, o1⟩, r1⟩ := h.each 1 3 v1 rfl rfl
  obtain ⟨⟨_, o2⟩, r2⟩ := h.each 2 51 v2 rfl rfl
  obtain ⟨a0, q0⟩ := r0 opens_gr
  obtain ⟨V0, g0, rfl, i0, l0⟩ := top_gr o0 q0
  obtain ⟨a1, q1⟩ := r1 (opens_int Tryd.underlying3)
  obtain ⟨rfl, -⟩ := top_int Tryd.underlying3 o1 q1
  obtain ⟨a2, q2⟩ := r2 Go.Proofs.YtlbphlhbofjfgaaDoor.stamp.opens_time
  obtain ⟨t2, i2, rfl⟩ := Go.Proofs.YtlbphlhbofjfgaaDoor.stamp.top_time o2 q2
  exact walkP V0 g0 i0 a1 t2 i2 W hE l0

set_option maxRecDepth 100000 in
theorem lifted (os : Os) (started : os.Started) (H : Type) (enc : TypeId × Value → H) :
    ReturnsInHanded {} Tryd.checked os 4 .any (fun w args => (Rows.graphPlacesSpec.pre enc Tryd.prog Tryd.f4 Rows.graphPlacesRow.domain false w args ∧ laidMetH Tryd.prog Rows.graphPlacesRow.laid w) ∧ sizedMet enc Tryd.prog Tryd.f4 (OpenSpec.ofChange Rows.graphPlacesSpec) false w args) (Rows.graphPlacesSpec.post enc Tryd.prog Tryd.f4 false true false false) :=
  liftG (ts := [27, 3, 51]) (fun W hs h => env_of hs h) started (by kernel_rfl) Tryd.func4 (by kernel_rfl) (by kernel_rfl) (by kernel_rfl) rfl
    (fun ds h => by
      match ds, h with
      | [_, _, _], _ => rfl)
    (ChangeSpec.witness_shaped (enc := enc) (C := Tryd.checked) (os := os) (X := fun w _ => laidMetH Tryd.prog laidR w) false (start os) #[.agg #[.slice none 0 0, .slice none 0 0, .slice none 0 0, .slice none 0 0], .int .i64 0, .agg #[.int .u32 0, .int .i64 0, .int .u32 0, .int .u32 0, .int .u32 0]] 8 (World.laidAll_os _ _ _)
      (World.shaped_of_ZipB (by kernel_rfl) (by kernel_rfl)) (by kernel_rfl) (by kernel_rfl) (by kernel_rfl) (start_met os _)) told

theorem over : Rows.GraphPlacesSaid :=
  OpenClaim.holds_of_wide 4 Tryd.f4 rfl rfl rfl rfl rfl rfl rfl ⟨rfl, rfl, rfl, rfl, rfl⟩ rfl rfl rfl rfl rfl (by kernel_rfl) Tryd.func4 (by kernel_rfl)
    (of_decide_eq_true (by kernel_rfl)) (by unfold Func.isWrapper; first | (rw [if_pos (by decide +kernel)]; kernel_rfl) | (rw [if_neg (by decide +kernel)]; exact ⟨rfl, rfl⟩))
    (fun os started H enc _ => lifted os started H enc)

theorem proved : Rows.GraphPlacesCardSaid :=
  Claim7.holds_tied_plain_at .later [] [.wider] true (true, "bae4e6377b2ffe1bc4d83e509784c65a4166f0792437d748dc2dbb9e37d737ef") false
    over (fun _ h => by cases h) (by kernel_rfl) (fun _ h => by cases h) graphPlaces_row_tie rfl ⟨rfl, rfl⟩ (by kernel_rfl) rfl
    (fun f fn hf hfn => by
      obtain rfl : f = 4 := Option.some.inj ((show Tryd.prog.funcNamed "watershed/watershedlaw09.GraphPlaces" = some 4 by kernel_rfl).symm.trans hf) |>.symm
      obtain rfl : fn = Tryd.f4 := (Option.some.inj (Tryd.func4.symm.trans hfn)).symm
      exact ⟨by kernel_rfl, fun j t ht => by
        rw [Tryd.params4] at ht
        have hm : t ∈ [27, 3, 51] := by simpa using Array.mem_of_getElem? ht
        have hall : ([27, 3, 51].all fun u => !Tryd.prog.wantsStandIn u) = true := by kernel_rfl
        exact (show Tryd.prog.wantsStandIn t = false by simpa using List.all_eq_true.1 hall t hm)⟩)
    (by kernel_rfl)
#print axioms proved
end Go.Proofs.YtlbphlhbofjfgaaDoor.graph
