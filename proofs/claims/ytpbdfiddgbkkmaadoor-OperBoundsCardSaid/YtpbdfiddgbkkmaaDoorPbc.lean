/-
  OperBounds: of each key the count is how often it is there, the least value is not greater than the greatest one, and both are there. No condition.
-/
import Derived.Test.YtpbdfiddgbkkmaaDoorOcd
import Derived.Test.YtpbdfiddgbkkmaaDoorPb
import Derived.Test.YtpbdfiddgbkkmaaDoorTie
import Derived.Test.YtpbdfiddgbkkmaaDoorCards
namespace Go.Proofs.YtpbdfiddgbkkmaaDoor.oper
open Go.ChangeShapes Go.WideShapes Go.ChangeAt Go.RowKit
open Go.Proofs.YtpbdfiddgbkkmaaDoor.opened Go.Proofs.YtpbdfiddgbkkmaaDoor.block Go.Proofs.YtpbdfiddgbkkmaaDoor.data
noncomputable abbrev laidR : List (String × DataW Unit) := Rows.operBoundsRow.laid
noncomputable def start (os : Os) : World := World.laidAll Tryd.prog os laidR
set_option maxRecDepth 100000 in
theorem start_met (os : Os) (args : Array Value) : laidMetH Tryd.prog laidR ((start os).forCall (fun _ _ => 0) ⟨#[], args, []⟩).memory := by
  rw [MakeChecks.laidMetH_plain _ _ _ (by kernel_rfl)]
  exact laidMet_laidAll _ (by kernel_rfl) (by kernel_rfl)
def Free (_ : World) : Prop := True
theorem env_of {W : World} (_hS : W.ShapedOpen Tryd.prog) (_hL : laidMetH Tryd.prog laidR W) : Free W := trivial
set_option maxRecDepth 100000 in
theorem told (W : World) (args : Array Value) (_hE : Free W) (h : Fed Tryd.prog W [24] args) : Calls Tryd.prog 5 args W fun e W' => e = .returned (.bool true) ∧ Below W.heap.size W W' := by
  obtain ⟨v0, rfl⟩ := args1 h.count
  obtain ⟨⟨_, o0⟩, r0⟩ := h.each 0 24 v0 rfl rfl
  obtain ⟨a0, q0⟩ := r0 opens_recs
  obtain ⟨A0, c0, L0, rfl, iL0, hL0, mL0⟩ := top_recs o0 q0
  exact walkBounds A0 c0 L0 iL0 W hL0

set_option maxRecDepth 100000 in
theorem lifted (os : Os) (started : os.Started) (H : Type) (enc : TypeId × Value → H) :
    ReturnsInHanded {} Tryd.checked os 5 .any (fun w args => (Rows.operBoundsSpec.pre enc Tryd.prog Tryd.f5 Rows.operBoundsRow.domain false w args ∧ laidMetH Tryd.prog Rows.operBoundsRow.laid w) ∧ sizedMet enc Tryd.prog Tryd.f5 (OpenSpec.ofChange Rows.operBoundsSpec) false w args) (Rows.operBoundsSpec.post enc Tryd.prog Tryd.f5 false true false false) :=
  liftG (ts := [24]) (fun W hs h => env_of hs h) started (by kernel_rfl) Tryd.func5 (by kernel_rfl) (by kernel_rfl) (by kernel_rfl) rfl
    (fun ds h => by
      match ds, h with
      | [_], _ => rfl)
    (ChangeSpec.witness_shaped (enc := enc) (C := Tryd.checked) (os := os) (X := fun w _ => laidMetH Tryd.prog laidR w) false (start os) #[.slice none 0 0] 8 (World.laidAll_os _ _ _)
      (World.shaped_of_ZipB (by kernel_rfl) (by kernel_rfl)) (by kernel_rfl) (by kernel_rfl) (by kernel_rfl) (start_met os _)) told

theorem over : Rows.OperBoundsSaid :=
  OpenClaim.holds_of_wide 5 Tryd.f5 rfl rfl rfl rfl rfl rfl rfl ⟨rfl, rfl, rfl, rfl, rfl⟩ rfl rfl rfl rfl rfl (by kernel_rfl) Tryd.func5 (by kernel_rfl)
    (of_decide_eq_true (by kernel_rfl)) (by unfold Func.isWrapper; first | (rw [if_pos (by decide +kernel)]; kernel_rfl) | (rw [if_neg (by decide +kernel)]; exact ⟨rfl, rfl⟩))
    (fun os started H enc _ => lifted os started H enc)

theorem proved : Rows.OperBoundsCardSaid :=
  Claim7.holds_tied_plain_at .later [] [.data, .data, .data] true (true, "65f82b94a7a917b1989deb0c4266e453e27883b1b4084c86747b39ab625bb92a") false
    over (fun _ h => by cases h) (by kernel_rfl) (fun _ h => by cases h) operBounds_row_tie rfl ⟨rfl, rfl⟩ (by kernel_rfl) rfl
    (fun f fn hf hfn => by
      obtain rfl : f = 5 := Option.some.inj ((show Tryd.prog.funcNamed "watershed/watershedlaw12.OperBounds" = some 5 by kernel_rfl).symm.trans hf) |>.symm
      obtain rfl : fn = Tryd.f5 := (Option.some.inj (Tryd.func5.symm.trans hfn)).symm
      exact ⟨by kernel_rfl, fun j t ht => by
        rw [Tryd.params5] at ht
        have hm : t ∈ [24] := by simpa using Array.mem_of_getElem? ht
        have hall : ([24].all fun u => !Tryd.prog.wantsStandIn u) = true := by kernel_rfl
        exact (show Tryd.prog.wantsStandIn t = false by simpa using List.all_eq_true.1 hall t hm)⟩)
    (by kernel_rfl)
#print axioms proved
end Go.Proofs.YtpbdfiddgbkkmaaDoor.oper
