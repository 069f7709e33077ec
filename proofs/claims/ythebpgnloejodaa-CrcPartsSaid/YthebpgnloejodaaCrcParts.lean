import Derived.Test.YthebpgnloejodaaRows
import Derived.WalkKit
import Derived.ProofKit
import Derived.OpenShut
import Derived.Lib.Hide
import Derived.Deep.QuietTactic
import Derived.BigQuiet
import Derived.Laws.BitsAllLaws
import Derived.WalkSpells
import Derived.Laws.IdiomStrings
import Derived.Test.YthebpgnloejodaaWorks
import Derived.Test.YthebpgnloejodaaPlace
import Derived.Test.YthebpgnloejodaaOpen
import Derived.Test.YthebpgnloejodaaBlock
namespace Go.Proofs.Ythebpgnloejodaa.crcParts
open Go.ChangeShapes Go.WideShapes Go.ChangeAt Go.RowKit
open Go.Proofs.Ythebpgnloejodaa.crc Go.Proofs.Ythebpgnloejodaa.crcm Go.Proofs.Ythebpgnloejodaa.block Go.Proofs.Ythebpgnloejodaa.opened


theorem sum_take (l : List UInt8) (k : Nat) (hl : l.length ≤ 140737488351232) (w : World) : Calls Try.prog 9 #[.string ((⟨l.toArray⟩ : ByteArray).extract 0 k)] w fun e w' => e = .returned (.int .u32 (sumL (l.take k) : Nat)) ∧ Below w.heap.size w w' := by
  rw [str_take]
  exact (sum_any _ (by simp; omega) w).mono fun _ _ h => ⟨h.1, h.2 ▸ Below.refl _ _⟩
theorem more_drop (l : List UInt8) (k : Nat) (hl : l.length ≤ 140737488351232) (w : World) : Calls Try.prog 11 #[.int .u32 (sumL (l.take k) : Nat), .string ((⟨l.toArray⟩ : ByteArray).extract k l.length)] w fun e w' => e = .returned (.int .u32 (sumL l : Nat)) ∧ Below w.heap.size w w' := by
  rw [str_drop]
  refine (more_any _ _ (sumL_lt _) (by simp; omega) w).mono fun _ _ h => ⟨?_, h.2 ▸ Below.refl _ _⟩
  rw [h.1, more_parts, List.take_append_drop]
theorem sum_below (l : List UInt8) (hl : l.length ≤ 140737488351232) (w : World) : Calls Try.prog 9 #[.string ⟨l.toArray⟩] w fun e w' => e = .returned (.int .u32 (sumL l : Nat)) ∧ Below w.heap.size w w' :=
  (sum_any _ hl w).mono fun _ _ h => ⟨h.1, h.2 ▸ Below.refl _ _⟩
theorem open_seal (l : List UInt8) (hl : l.length ≤ 5000) (w : World) : Calls Try.prog 7 #[.string ⟨(sealL l).toArray⟩] w fun e w' => e = .returned (.tuple #[.string ⟨l.toArray⟩, .bool true]) ∧ Below w.heap.size w w' := by
  have k := open_any (sealL l) (by rw [sealL_length]; omega) w
  unfold opened at k
  rw [openT_seal, isSeal_seal] at k
  exact k

theorem walk (s : ByteArray) (n : Int) (hs : s.size ≤ 140737488351232) (wn : (Lit.int .i64 n).wf = true) (w : World) :
    Calls Try.prog 4 #[.string s, .int .i64 n] w fun e w' => e = .returned (.bool true) ∧ Below w.heap.size w w' := by
  obtain ⟨l0, h0⟩ := bounds_i64 wn
  clear wn
  obtain ⟨l, rfl⟩ : ∃ l : List UInt8, s = ⟨l.toArray⟩ := ⟨s.data.toList, by simp⟩
  have hl : l.length ≤ 140737488351232 := hs
  clear hs
  go_enter Try.func4, Try.ntmps4
  go_wp2_with fail
  refine (works_any _).mono ?_
  rintro e w1 ⟨rfl, b1⟩
  by_cases hc : 5000 < l.length
  · go_wp2
    go_ret
    exact ⟨rfl, b1⟩
  · obtain ⟨k, hk, hkl⟩ := place n (d := l.length + 1) (by omega) (by omega)
    rw [Int.natCast_add, Int.natCast_one] at hk
    have hkw := IntWalk.wrap64_in (k : Int) (by omega)
    have K1 := Lib.hid (sum_take l k hl)
    have K2 := Lib.hid (more_drop l k hl)
    have K3 := Lib.hid (sum_below l hl)
    have K4 := Lib.hid (seal_any l hl)
    go_wp2_with fail
    refine (K4.out _).mono ?_
    rintro e w2 ⟨rfl, b2⟩
    go_wp2_with fail
    refine (open_seal l (by omega) _).mono ?_
    rintro e w3 ⟨rfl, b3⟩
    have b4 := then_below (then_below b1 b2) b3
    clear b1 b2 b3 hk
    have hsl := sealL_length l
    go_wp2_with fail
    refine region_since w (by kernel_rfl) (by kernel_rfl) b4 ?_
    repeat (go_big_quiet_step ((first | exact since_call K1.out _ | exact since_call K2.out _ | exact since_call K3.out _ | exact since_call K4.out _)))
    refine wpQuiet_nil ?_
    rintro w4 ⟨x, hw⟩
    have b4 : Below w.heap.size w w4 := hw ▸ x.2
    clear hw x
    go_wp2
    go_ret
    exact ⟨rfl, b4⟩

theorem told (W : World) (args : Array Value) (h : Fed Try.prog W [9, 3] args) : Calls Try.prog 4 args W fun e W' => e = .returned (.bool true) ∧ Below W.heap.size W W' := by
  obtain ⟨v0, v1, rfl⟩ := args2 h.count
  obtain ⟨⟨_, o0⟩, r0⟩ := h.each 0 9 v0 rfl rfl
  obtain ⟨⟨_, o1⟩, r1⟩ := h.each 1 3 v1 rfl rfl
  obtain ⟨a0, q0⟩ := r0 (opens_str Try.underlying9)
  obtain ⟨rfl, w0⟩ := top_str Try.underlying9 o0 q0
  obtain ⟨a1, q1⟩ := r1 (opens_int Try.underlying3)
  obtain ⟨rfl, w1⟩ := top_int Try.underlying3 o1 q1
  exact walk a0 a1 w0 w1 W

/-! ### The row -/
theorem own : ownKnob Try.prog.godebug = none := by kernel_rfl
theorem laidOut : laidOutB Try.prog = true := by kernel_rfl
set_option maxRecDepth 100000 in
theorem lifted (os : Os) (started : os.Started) (H : Type) (enc : TypeId × Value → H) :
    ReturnsInHanded {} Try.checked os 4 .any (Rows.crcPartsSpec.pre6 enc Try.prog Try.f4 Rows.crcPartsRow.domain false) (Rows.crcPartsSpec.post enc Try.prog Try.f4 false true false false) :=
  lift (C := Try.checked) (fn := Try.f4) (tb := 4) (ts := [9, 3]) own started (by kernel_rfl) Try.func4 laidOut (by kernel_rfl) (by kernel_rfl) (by kernel_rfl) Try.underlying4 rfl
    (fun ds h => by
      match ds, h with
      | [_, _], _ => rfl)
    (ChangeSpec.witness6 (enc := enc) (C := Try.checked) false ⟨#[], #[.string ByteArray.empty, .int .i64 0], []⟩ 8 (by kernel_rfl) (by kernel_rfl) (by kernel_rfl) (by kernel_rfl)) told

theorem over : Rows.crcPartsRow.holds Try.pinned (OpenSpec.ofChange Rows.crcPartsSpec) :=
  OpenClaim.holds_of_wide 4 Try.f4 rfl rfl rfl rfl rfl rfl rfl ⟨rfl, rfl, rfl, rfl, rfl⟩ rfl rfl rfl rfl rfl (by kernel_rfl) Try.func4 (by kernel_rfl)
    (of_decide_eq_true (by kernel_rfl)) (by unfold Func.isWrapper; first | (rw [if_pos (by decide +kernel)]; kernel_rfl) | (rw [if_neg (by decide +kernel)]; exact ⟨rfl, rfl⟩))
    (fun os started H enc _ => lifted os started H enc)

theorem proved : Rows.CrcPartsSaid := over
#print axioms proved
end Go.Proofs.Ythebpgnloejodaa.crcParts
