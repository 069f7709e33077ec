/-
  DataTexts: as the document says. No condition.
-/
import Derived.Test.YtfjfohkdlikpiaaDoorDcd
import Derived.Test.YtfjfohkdlikpiaaDoorDwt
import Derived.Test.YtfjfohkdlikpiaaDoorTie
import Derived.Test.YtfjfohkdlikpiaaDoorCards
namespace Go.Proofs.YtfjfohkdlikpiaaDoor.data
open Go.ChangeShapes Go.WideShapes Go.ChangeAt Go.RowKit
open Go.Proofs.YtfjfohkdlikpiaaDoor.opened Go.Proofs.YtfjfohkdlikpiaaDoor.block Go.Proofs.YtfjfohkdlikpiaaDoor.words
noncomputable abbrev laidR : List (String × DataW Unit) := Rows.dataTextsRow.laid
noncomputable def start (os : Os) : World := World.laidAll Tryd.prog os laidR
set_option maxRecDepth 100000 in
theorem start_met (os : Os) (args : Array Value) : laidMetH Tryd.prog laidR ((start os).forCall (fun _ _ => 0) ⟨#[], args, []⟩).memory := by
  rw [MakeChecks.laidMetH_plain _ _ _ (by kernel_rfl)]
  exact laidMet_laidAll _ (by kernel_rfl) (by kernel_rfl)
theorem gTab : Tryd.prog.globalNamed "internal/strconv.uint64pow10" = some 3 := by kernel_rfl
theorem gTabT : (Tryd.prog.globals[3]?).map (·.type) = some 88 := by kernel_rfl
theorem gSyn : Tryd.prog.globalNamed "strconv.ErrSyntax" = some 4 := by kernel_rfl
theorem gSynT : (Tryd.prog.globals[4]?).map (·.type) = some 53 := by kernel_rfl
theorem gRng : Tryd.prog.globalNamed "strconv.ErrRange" = some 5 := by kernel_rfl
theorem gRngT : (Tryd.prog.globals[5]?).map (·.type) = some 53 := by kernel_rfl
theorem star : "*" ++ "errors.errorString" = "*errors.errorString" := by decide
theorem rowErr (u : TypeId) (h : Tryd.prog.typeName? 3 u = some "*errors.errorString") : u = 101 :=
  typeName_ptr_named (nm := "errors.errorString") (by rw [star]; kernel_rfl) (by kernel_rfl) (by decide) u (by rw [star]; exact h)
set_option maxRecDepth 100000 in
theorem env_of {W : World} (hS : W.ShapedOpen Tryd.prog) (hL : laidMetH Tryd.prog laidR W) : Env W := by
  rw [MakeChecks.laidMetH_plain _ _ _ (by kernel_rfl)] at hL
  have h5 := hL.tail.tail.tail.tail
  obtain ⟨a1, s1, hr, -, -, -⟩ := laid_sentinel h5 gRng gRngT Tryd.underlying53 rowErr Tryd.underlying101 Tryd.underlying102 rfl rfl Tryd.underlying9 (by kernel_rfl) (by kernel_rfl)
  obtain ⟨a0, s0, hs, -, -, -⟩ := laid_sentinel h5.tail gSyn gSynT Tryd.underlying53 rowErr Tryd.underlying101 Tryd.underlying102 rfl rfl Tryd.underlying9 (by kernel_rfl) (by kernel_rfl)
  exact ⟨Lib.tabIs_of_head gTab gTabT Tryd.underlying88 Tryd.underlying45 (by kernel_rfl) (by kernel_rfl) hL.tail.tail,
    cell_of_shapedOpen_int (P := Tryd.prog) (g := 2) (t := 3) (zero := #[.int .i64 0]) hS (of_decide_eq_true (by kernel_rfl)) (by kernel_rfl) rfl (by kernel_rfl) (by kernel_rfl) Tryd.underlying3,
    ⟨_, _, hs⟩, ⟨_, _, hr⟩⟩

set_option maxRecDepth 100000 in
theorem told (W : World) (args : Array Value) (hE : Env W) (h : Fed Tryd.prog W [22, 9] args) : Calls Tryd.prog 3 args W fun e W' => e = .returned (.bool true) ∧ Below W.heap.size W W' := by
  obtain ⟨v0, v1, rfl⟩ := args2 h.count
  obtain ⟨⟨_, o0⟩, r0⟩ := h.each 0 22 v0 rfl rfl
  obtain ⟨⟨_, o1⟩, r1⟩ := h.each 1 9 v1 rfl rfl
  obtain ⟨a0, q0⟩ := r0 opens_recs
  obtain ⟨A0, c0, L0, rfl, iL0, hL0, mL0⟩ := top_recs o0 q0
  obtain ⟨a1, q1⟩ := r1 (opens_str Tryd.underlying9)
  obtain ⟨rfl, -⟩ := top_str Tryd.underlying9 o1 q1
  obtain ⟨s1, rfl⟩ : ∃ s : Bs, a1 = ⟨s.toArray⟩ := ⟨a1.data.toList, (Lib.mk_data a1).symm⟩
  exact walkTexts L0 iL0 A0 c0 s1 W hE hL0

set_option maxRecDepth 100000 in
theorem lifted (os : Os) (started : os.Started) (H : Type) (enc : TypeId × Value → H) :
    ReturnsInHanded {} Tryd.checked os 3 .any (fun w args => (Rows.dataTextsSpec.pre enc Tryd.prog Tryd.f3 Rows.dataTextsRow.domain false w args ∧ laidMetH Tryd.prog Rows.dataTextsRow.laid w) ∧ sizedMet enc Tryd.prog Tryd.f3 (OpenSpec.ofChange Rows.dataTextsSpec) false w args) (Rows.dataTextsSpec.post enc Tryd.prog Tryd.f3 false true false false) :=
  liftG (ts := [22, 9]) (fun W hs h => env_of hs h) started (by kernel_rfl) Tryd.func3 (by kernel_rfl) (by kernel_rfl) (by kernel_rfl) rfl
    (fun ds h => by
      match ds, h with
      | [_, _], _ => rfl)
    (ChangeSpec.witness_shaped (enc := enc) (C := Tryd.checked) (os := os) (X := fun w _ => laidMetH Tryd.prog laidR w) false (start os) #[.slice none 0 0, .string ByteArray.empty] 8 (World.laidAll_os _ _ _)
      (World.shaped_of_ZipB (by kernel_rfl) (by kernel_rfl)) (by kernel_rfl) (by kernel_rfl) (by kernel_rfl) (start_met os _)) told

theorem over : Rows.DataTextsSaid :=
  OpenClaim.holds_of_wide 3 Tryd.f3 rfl rfl rfl rfl rfl rfl rfl ⟨rfl, rfl, rfl, rfl, rfl⟩ rfl rfl rfl rfl rfl (by kernel_rfl) Tryd.func3 (by kernel_rfl)
    (of_decide_eq_true (by kernel_rfl)) (by unfold Func.isWrapper; first | (rw [if_pos (by decide +kernel)]; kernel_rfl) | (rw [if_neg (by decide +kernel)]; exact ⟨rfl, rfl⟩))
    (fun os started H enc _ => lifted os started H enc)

theorem proved : Rows.DataTextsCardSaid :=
  Claim7.holds_tied_plain_at .later [] [.data, .data, .data, .data, .sentinel, .sentinel, .pinned] true (true, "64f344666165e396c9a78ce430ce57887bae36e367ffbebbfe04d26a455794ce") true
    over (fun _ h => by cases h) (by kernel_rfl) (fun _ h => by cases h) dataTexts_row_tie rfl ⟨rfl, rfl⟩ (by kernel_rfl) rfl
    (fun f fn hf hfn => by
      obtain rfl : f = 3 := Option.some.inj ((show Tryd.prog.funcNamed "watershed/watershedlaw11.DataTexts" = some 3 by kernel_rfl).symm.trans hf) |>.symm
      obtain rfl : fn = Tryd.f3 := (Option.some.inj (Tryd.func3.symm.trans hfn)).symm
      exact ⟨by kernel_rfl, fun j t ht => by
        rw [Tryd.params3] at ht
        have hm : t ∈ [22, 9] := by simpa using Array.mem_of_getElem? ht
        have hall : ([22, 9].all fun u => !Tryd.prog.wantsStandIn u) = true := by kernel_rfl
        exact (show Tryd.prog.wantsStandIn t = false by simpa using List.all_eq_true.1 hall t hm)⟩)
    (by kernel_rfl)
#print axioms proved
end Go.Proofs.YtfjfohkdlikpiaaDoor.data
