/-
  OperParts: what comes of two lists, one behind the other, is what comes of both. No condition.
-/
import Derived.Test.YtpbdfiddgbkkmaaDoorOcd
import Derived.Test.YtpbdfiddgbkkmaaDoorPp
import Derived.Test.YtpbdfiddgbkkmaaDoorTie
import Derived.Test.YtpbdfiddgbkkmaaDoorCards
namespace Go.Proofs.YtpbdfiddgbkkmaaDoor.oper
open Go.ChangeShapes Go.WideShapes Go.ChangeAt Go.RowKit
open Go.Proofs.YtpbdfiddgbkkmaaDoor.opened Go.Proofs.YtpbdfiddgbkkmaaDoor.block Go.Proofs.YtpbdfiddgbkkmaaDoor.data
noncomputable abbrev laidR : List (String × DataW Unit) := Rows.operPartsRow.laid
noncomputable def start (os : Os) : World := World.laidAll Tryd.prog os laidR
set_option maxRecDepth 100000 in
theorem start_met (os : Os) (args : Array Value) : laidMetH Tryd.prog laidR ((start os).forCall (fun _ _ => 0) ⟨#[], args, []⟩).memory := by
  rw [MakeChecks.laidMetH_plain _ _ _ (by kernel_rfl)]
  exact laidMet_laidAll _ (by kernel_rfl) (by kernel_rfl)
def Free (_ : World) : Prop := True
theorem env_of {W : World} (_hS : W.ShapedOpen Tryd.prog) (_hL : laidMetH Tryd.prog laidR W) : Free W := trivial
set_option maxRecDepth 100000 in
theorem told (W : World) (args : Array Value) (_hE : Free W) (h : Fed Tryd.prog W [23, 24, 24] args) : Calls Tryd.prog 3 args W fun e W' => e = .returned (.bool true) ∧ Below W.heap.size W W' := by
  obtain ⟨v0, v1, v2, rfl⟩ := args3 h.count
  obtain ⟨⟨_, o0⟩, r0⟩ := h.each 0 23 v0 rfl rfl
  obtain ⟨⟨_, o1⟩, r1⟩ := h.each 1 24 v1 rfl rfl
  obtain ⟨⟨_, o2⟩, r2⟩ := h.each 2 24 v2 rfl rfl
  obtain ⟨a0, q0⟩ := r0 opens_od
  obtain ⟨O0, rfl, iO0⟩ := top_od o0 q0
  obtain ⟨a1, q1⟩ := r1 opens_recs
  obtain ⟨A1, c1, L1, rfl, iL1, hL1, mL1⟩ := top_recs o1 q1
  obtain ⟨a2, q2⟩ := r2 opens_recs
  obtain ⟨A2, c2, L2, rfl, iL2, hL2, mL2⟩ := top_recs o2 q2
  exact walkParts O0 iO0 A1 c1 L1 iL1 A2 c2 L2 iL2 W hL1 hL2

set_option maxRecDepth 100000 in
theorem lifted (os : Os) (started : os.Started) (H : Type) (enc : TypeId × Value → H) :
    ReturnsInHanded {} Tryd.checked os 3 .any (fun w args => (Rows.operPartsSpec.pre enc Tryd.prog Tryd.f3 Rows.operPartsRow.domain false w args ∧ laidMetH Tryd.prog Rows.operPartsRow.laid w) ∧ sizedMet enc Tryd.prog Tryd.f3 (OpenSpec.ofChange Rows.operPartsSpec) false w args) (Rows.operPartsSpec.post enc Tryd.prog Tryd.f3 false true false false) :=
  liftG (ts := [23, 24, 24]) (fun W hs h => env_of hs h) started (by kernel_rfl) Tryd.func3 (by kernel_rfl) (by kernel_rfl) (by kernel_rfl) rfl
    (fun ds h => by
      match ds, h with
      | [_, _, _], _ => rfl)
    (ChangeSpec.witness_shaped (enc := enc) (C := Tryd.checked) (os := os) (X := fun w _ => laidMetH Tryd.prog laidR w) false (start os) #[.agg #[.string ByteArray.empty, .int .i64 0, .int .i64 0, .int .i64 0, .int .i64 0, .int .i64 0], .slice none 0 0, .slice none 0 0] 8 (World.laidAll_os _ _ _)
      (World.shaped_of_ZipB (by kernel_rfl) (by kernel_rfl)) (by kernel_rfl) (by kernel_rfl) (by kernel_rfl) (start_met os _)) told

theorem over : Rows.OperPartsSaid :=
  OpenClaim.holds_of_wide 3 Tryd.f3 rfl rfl rfl rfl rfl rfl rfl ⟨rfl, rfl, rfl, rfl, rfl⟩ rfl rfl rfl rfl rfl (by kernel_rfl) Tryd.func3 (by kernel_rfl)
    (of_decide_eq_true (by kernel_rfl)) (by unfold Func.isWrapper; first | (rw [if_pos (by decide +kernel)]; kernel_rfl) | (rw [if_neg (by decide +kernel)]; exact ⟨rfl, rfl⟩))
    (fun os started H enc _ => lifted os started H enc)

theorem proved : Rows.OperPartsCardSaid :=
  Claim7.holds_tied_plain_at .later [] [.data, .data, .data] true (true, "65f82b94a7a917b1989deb0c4266e453e27883b1b4084c86747b39ab625bb92a") false
    over (fun _ h => by cases h) (by kernel_rfl) (fun _ h => by cases h) operParts_row_tie rfl ⟨rfl, rfl⟩ (by kernel_rfl) rfl
    (fun f fn hf hfn => by
      obtain rfl : f = 3 := Option.some.inj ((show Tryd.prog.funcNamed "watershed/watershedlaw12.OperParts" = some 3 by kernel_rfl).symm.trans hf) |>.symm
      obtain rfl : fn = Tryd.f3 := (Option.some.inj (Tryd.func3.symm.trans hfn)).symm
      exact ⟨by kernel_rfl, fun j t ht => by
        rw [Tryd.params3] at ht
        have hm : t ∈ [23, 24, 24] := by simpa using Array.mem_of_getElem? ht
        have hall : ([23, 24, 24].all fun u => !Tryd.prog.wantsStandIn u) = true := by kernel_rfl
        exact (show Tryd.prog.wantsStandIn t = false by simpa using List.all_eq_true.1 hall t hm)⟩)
    (by kernel_rfl)
#print axioms proved
end Go.Proofs.YtpbdfiddgbkkmaaDoor.oper
