/-
  OperOrder: what comes of all records of a time does not hang on their order, each key comes once, rising, and what is kept by parts of keys comes to the same. No condition.
-/
import Derived.Test.YtpbdfiddgbkkmaaDoorOcd
import Derived.Test.YtpbdfiddgbkkmaaDoorPo
import Derived.Test.YtpbdfiddgbkkmaaDoorTie
import Derived.Test.YtpbdfiddgbkkmaaDoorCards
namespace Go.Proofs.YtpbdfiddgbkkmaaDoor.oper
open Go.ChangeShapes Go.WideShapes Go.ChangeAt Go.RowKit
open Go.Proofs.YtpbdfiddgbkkmaaDoor.opened Go.Proofs.YtpbdfiddgbkkmaaDoor.block Go.Proofs.YtpbdfiddgbkkmaaDoor.data
noncomputable abbrev laidR : List (String × DataW Unit) := Rows.operOrderRow.laid
noncomputable def start (os : Os) : World := World.laidAll Tryd.prog os laidR
set_option maxRecDepth 100000 in
theorem start_met (os : Os) (args : Array Value) : laidMetH Tryd.prog laidR ((start os).forCall (fun _ _ => 0) ⟨#[], args, []⟩).memory := by
  rw [MakeChecks.laidMetH_plain _ _ _ (by kernel_rfl)]
  exact laidMet_laidAll _ (by kernel_rfl) (by kernel_rfl)
def Free (_ : World) : Prop := True
theorem env_of {W : World} (_hS : W.ShapedOpen Tryd.prog) (_hL : laidMetH Tryd.prog laidR W) : Free W := trivial
set_option maxRecDepth 100000 in
theorem told (W : World) (args : Array Value) (_hE : Free W) (h : Fed Tryd.prog W [23, 24, 3] args) : Calls Tryd.prog 4 args W fun e W' => e = .returned (.bool true) ∧ Below W.heap.size W W' := by
  obtain ⟨v0, v1, v2, rfl⟩ := args3 h.count
  obtain ⟨⟨_, o0⟩, r0⟩ := h.each 0 23 v0 rfl rfl
  obtain ⟨⟨_, o1⟩, r1⟩ := h.each 1 24 v1 rfl rfl
  obtain ⟨⟨_, o2⟩, r2⟩ := h.each 2 3 v2 rfl rfl
  obtain ⟨a0, q0⟩ := r0 opens_od
  obtain ⟨O0, rfl, iO0⟩ := top_od o0 q0
  obtain ⟨a1, q1⟩ := r1 opens_recs
  obtain ⟨A1, c1, L1, rfl, iL1, hL1, mL1⟩ := top_recs o1 q1
  obtain ⟨a2, q2⟩ := r2 (opens_int Tryd.underlying3)
  obtain ⟨rfl, -⟩ := top_int Tryd.underlying3 o2 q2
  exact walkOrder O0 iO0 A1 c1 L1 iL1 a2 W hL1

set_option maxRecDepth 100000 in
theorem lifted (os : Os) (started : os.Started) (H : Type) (enc : TypeId × Value → H) :
    ReturnsInHanded {} Tryd.checked os 4 .any (fun w args => (Rows.operOrderSpec.pre enc Tryd.prog Tryd.f4 Rows.operOrderRow.domain false w args ∧ laidMetH Tryd.prog Rows.operOrderRow.laid w) ∧ sizedMet enc Tryd.prog Tryd.f4 (OpenSpec.ofChange Rows.operOrderSpec) false w args) (Rows.operOrderSpec.post enc Tryd.prog Tryd.f4 false true false false) :=
  liftG (ts := [23, 24, 3]) (fun W hs h => env_of hs h) started (by kernel_rfl) Tryd.func4 (by kernel_rfl) (by kernel_rfl) (by kernel_rfl) rfl
    (fun ds h => by
      match ds, h with
      | [_, _, _], _ => rfl)
    (ChangeSpec.witness_shaped (enc := enc) (C := Tryd.checked) (os := os) (X := fun w _ => laidMetH Tryd.prog laidR w) false (start os) #[.agg #[.string ByteArray.empty, .int .i64 0, .int .i64 0, .int .i64 0, .int .i64 0, .int .i64 0], .slice none 0 0, .int .i64 0] 8 (World.laidAll_os _ _ _)
      (World.shaped_of_ZipB (by kernel_rfl) (by kernel_rfl)) (by kernel_rfl) (by kernel_rfl) (by kernel_rfl) (start_met os _)) told

theorem over : Rows.OperOrderSaid :=
  OpenClaim.holds_of_wide 4 Tryd.f4 rfl rfl rfl rfl rfl rfl rfl ⟨rfl, rfl, rfl, rfl, rfl⟩ rfl rfl rfl rfl rfl (by kernel_rfl) Tryd.func4 (by kernel_rfl)
    (of_decide_eq_true (by kernel_rfl)) (by unfold Func.isWrapper; first | (rw [if_pos (by decide +kernel)]; kernel_rfl) | (rw [if_neg (by decide +kernel)]; exact ⟨rfl, rfl⟩))
    (fun os started H enc _ => lifted os started H enc)

theorem proved : Rows.OperOrderCardSaid :=
  Claim7.holds_tied_plain_at .later [] [.data, .data, .data] true (true, "65f82b94a7a917b1989deb0c4266e453e27883b1b4084c86747b39ab625bb92a") false
    over (fun _ h => by cases h) (by kernel_rfl) (fun _ h => by cases h) operOrder_row_tie rfl ⟨rfl, rfl⟩ (by kernel_rfl) rfl
    (fun f fn hf hfn => by
      obtain rfl : f = 4 := Option.some.inj ((show Tryd.prog.funcNamed "watershed/watershedlaw12.OperOrder" = some 4 by kernel_rfl).symm.trans hf) |>.symm
      obtain rfl : fn = Tryd.f4 := (Option.some.inj (Tryd.func4.symm.trans hfn)).symm
      exact ⟨by kernel_rfl, fun j t ht => by
        rw [Tryd.params4] at ht
        have hm : t ∈ [23, 24, 3] := by simpa using Array.mem_of_getElem? ht
        have hall : ([23, 24, 3].all fun u => !Tryd.prog.wantsStandIn u) = true := by kernel_rfl
        exact (show Tryd.prog.wantsStandIn t = false by simpa using List.all_eq_true.1 hall t hm)⟩)
    (by kernel_rfl)
#print axioms proved
end Go.Proofs.YtpbdfiddgbkkmaaDoor.oper
