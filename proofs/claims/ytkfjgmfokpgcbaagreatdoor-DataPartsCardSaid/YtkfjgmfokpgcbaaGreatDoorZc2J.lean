/-
  DataParts: the parts of Spread hold what their numbers say, in the order of the list, and all of it. No condition.
-/
import Derived.Test.YtkfjgmfokpgcbaaGreatDoorJWq
import Derived.Test.YtkfjgmfokpgcbaaGreatDoorJDto
import Derived.Test.YtkfjgmfokpgcbaaGreatDoorJZpt
import Derived.Test.YtkfjgmfokpgcbaaGreatDoorTie
import Derived.Test.YtkfjgmfokpgcbaaGreatDoorCards
namespace Go.Proofs.YtkfjgmfokpgcbaaGreatDoor.data
namespace dataParts
open Go.ChangeShapes Go.WideShapes Go.ChangeAt Go.RowKit
open Go.Proofs.YtkfjgmfokpgcbaaGreatDoor.opened Go.Proofs.YtkfjgmfokpgcbaaGreatDoor.block Go.Proofs.YtkfjgmfokpgcbaaGreatDoor.words Go.Proofs.YtkfjgmfokpgcbaaGreatDoor.tm Go.Proofs.YtkfjgmfokpgcbaaGreatDoor.stamp
noncomputable abbrev laidR : List (String × DataW Unit) := Rows.dataPartsRow.laid
noncomputable def start (os : Os) : World := World.laidAll Tryz.prog os laidR
set_option maxRecDepth 100000 in
theorem start_met (os : Os) (args : Array Value) : laidMetH Tryz.prog laidR ((start os).forCall (fun _ _ => 0) ⟨#[], args, []⟩).memory := by
  rw [MakeChecks.laidMetH_plain _ _ _ (by kernel_rfl)]
  exact laidMet_laidAll _ (by kernel_rfl) (by kernel_rfl)
theorem gTab : Tryz.prog.globalNamed "internal/strconv.uint64pow10" = some 3 := by kernel_rfl
theorem gTabT : (Tryz.prog.globals[3]?).map (·.type) = some 160 := by kernel_rfl
theorem gSyn : Tryz.prog.globalNamed "strconv.ErrSyntax" = some 4 := by kernel_rfl
theorem gSynT : (Tryz.prog.globals[4]?).map (·.type) = some 66 := by kernel_rfl
theorem gRng : Tryz.prog.globalNamed "strconv.ErrRange" = some 5 := by kernel_rfl
theorem gRngT : (Tryz.prog.globals[5]?).map (·.type) = some 66 := by kernel_rfl
theorem star : "*" ++ "errors.errorString" = "*errors.errorString" := by decide
theorem rowErr (u : TypeId) (h : Tryz.prog.typeName? 3 u = some "*errors.errorString") : u = 172 :=
  typeName_ptr_named (nm := "errors.errorString") (by rw [star]; kernel_rfl) (by kernel_rfl) (by decide) u (by rw [star]; exact h)
set_option maxRecDepth 100000 in
theorem env_of {W : World} (hS : W.ShapedOpen Tryz.prog) (hL : laidMetH Tryz.prog laidR W) : Env W := by
  rw [MakeChecks.laidMetH_plain _ _ _ (by kernel_rfl)] at hL
  have h5 := hL.tail.tail.tail.tail
  obtain ⟨a1, s1, hr, -, -, -⟩ := laid_sentinel h5 gRng gRngT Tryz.underlying66 rowErr Tryz.underlying172 Tryz.underlying173 rfl rfl Tryz.underlying9 (by kernel_rfl) (by kernel_rfl)
  obtain ⟨a0, s0, hs, -, -, -⟩ := laid_sentinel h5.tail gSyn gSynT Tryz.underlying66 rowErr Tryz.underlying172 Tryz.underlying173 rfl rfl Tryz.underlying9 (by kernel_rfl) (by kernel_rfl)
  exact ⟨Lib.tabIs_of_head gTab gTabT Tryz.underlying160 Tryz.underlying24 (by kernel_rfl) (by kernel_rfl) hL.tail.tail,
    cell_of_shapedOpen_int (P := Tryz.prog) (g := 2) (t := 3) (zero := #[.int .i64 0]) hS (of_decide_eq_true (by kernel_rfl)) (by kernel_rfl) rfl (by kernel_rfl) (by kernel_rfl) Tryz.underlying3,
    ⟨_, _, hs⟩, ⟨_, _, hr⟩⟩

set_option maxRecDepth 100000 in
theorem told (W : World) (args : Array Value) (hE : Env W) (h : Fed Tryz.prog W [22, 3] args) : Calls Tryz.prog 3 args W fun e W' => e = .returned (.bool true) ∧ Below W.heap.size W W' := by
  obtain ⟨v0, v1, rfl⟩ := args2 h.count
  obtain ⟨⟨_, o0⟩, r0⟩ := h.each 0 22 v0 rfl rfl
  obtain ⟨⟨_, o1⟩, r1⟩ := h.each 1 3 v1 rfl rfl
  obtain ⟨a0, q0⟩ := r0 opens_recs
  obtain ⟨A0, c0, L0, rfl, iL0, hL0, mL0⟩ := top_recs o0 q0
  obtain ⟨a1, q1⟩ := r1 (opens_int Tryz.underlying3)
  obtain ⟨rfl, -⟩ := top_int Tryz.underlying3 o1 q1
  exact walkParts L0 A0 c0 a1 W hE hL0

set_option maxRecDepth 100000 in
theorem lifted (os : Os) (started : os.Started) (H : Type) (enc : TypeId × Value → H) :
    ReturnsInHanded {} Tryz.checked os 3 .any (fun w args => (Rows.dataPartsSpec.pre enc Tryz.prog Tryz.f3 Rows.dataPartsRow.domain false w args ∧ laidMetH Tryz.prog Rows.dataPartsRow.laid w) ∧ sizedMet enc Tryz.prog Tryz.f3 (OpenSpec.ofChange Rows.dataPartsSpec) false w args) (Rows.dataPartsSpec.post enc Tryz.prog Tryz.f3 false true false false) :=
  liftG (ts := [22, 3]) (fun W hs h => env_of hs h) started (by kernel_rfl) Tryz.func3 (by kernel_rfl) (by kernel_rfl) (by kernel_rfl) rfl
    (fun ds h => by
      match ds, h with
      | [_, _], _ => rfl)
    (ChangeSpec.witness_shaped (enc := enc) (C := Tryz.checked) (os := os) (X := fun w _ => laidMetH Tryz.prog laidR w) false (start os) #[.slice none 0 0, .int .i64 0] 8 (World.laidAll_os _ _ _)
      (World.shaped_of_ZipB (by kernel_rfl) (by kernel_rfl)) (by kernel_rfl) (by kernel_rfl) (by kernel_rfl) (start_met os _)) told

theorem over : Rows.DataPartsSaid :=
  OpenClaim.holds_of_wide 3 Tryz.f3 rfl rfl rfl rfl rfl rfl rfl ⟨rfl, rfl, rfl, rfl, rfl⟩ rfl rfl rfl rfl rfl (by kernel_rfl) Tryz.func3 (by kernel_rfl)
    (of_decide_eq_true (by kernel_rfl)) (by unfold Func.isWrapper; first | (rw [if_pos (by decide +kernel)]; kernel_rfl) | (rw [if_neg (by decide +kernel)]; exact ⟨rfl, rfl⟩))
    (fun os started H enc _ => lifted os started H enc)

theorem proved : Rows.DataPartsCardSaid :=
  Claim7.holds_tied_plain_at .later [] [.data, .data, .data, .data, .sentinel, .sentinel, .pinned] true (true, "5aaeaef1461b4c6b983cfe543c5d1b33238f8c93dcde26ccea03068f3ab57752") true
    over (fun _ h => by cases h) (by kernel_rfl) (fun _ h => by cases h) dataParts_row_tie rfl ⟨rfl, rfl⟩ (by kernel_rfl) rfl
    (fun f fn hf hfn => by
      obtain rfl : f = 3 := Option.some.inj ((show Tryz.prog.funcNamed "watershed/watershedlaw11.DataParts" = some 3 by kernel_rfl).symm.trans hf) |>.symm
      obtain rfl : fn = Tryz.f3 := (Option.some.inj (Tryz.func3.symm.trans hfn)).symm
      exact ⟨by kernel_rfl, fun j t ht => by
        rw [Tryz.params3] at ht
        have hm : t ∈ [22, 3] := by simpa using Array.mem_of_getElem? ht
        have hall : ([22, 3].all fun u => !Tryz.prog.wantsStandIn u) = true := by kernel_rfl
        exact (show Tryz.prog.wantsStandIn t = false by simpa using List.all_eq_true.1 hall t hm)⟩)
    (by kernel_rfl)
#print axioms proved
end dataParts
end Go.Proofs.YtkfjgmfokpgcbaaGreatDoor.data
