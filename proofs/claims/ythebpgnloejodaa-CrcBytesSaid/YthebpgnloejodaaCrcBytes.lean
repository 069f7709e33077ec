import Derived.Test.YthebpgnloejodaaRows
import Derived.WalkKit
import Derived.ProofKit
import Derived.OpenShut
import Derived.Lib.Hide
import Derived.Deep.QuietTactic
import Derived.BigQuiet
import Derived.Laws.BitsAllLaws
import Derived.WalkSpells
import Derived.Laws.IdiomStrings
import Derived.Test.YthebpgnloejodaaWorks
import Derived.Test.YthebpgnloejodaaPlace
import Derived.Test.YthebpgnloejodaaBts
import Derived.Test.YthebpgnloejodaaOpen
import Derived.Test.YthebpgnloejodaaBlock
namespace Go.Proofs.Ythebpgnloejodaa.crcBytes
open Go.ChangeShapes Go.WideShapes Go.ChangeAt Go.RowKit
open Go.Proofs.Ythebpgnloejodaa.crc Go.Proofs.Ythebpgnloejodaa.bts Go.Proofs.Ythebpgnloejodaa.crcm Go.Proofs.Ythebpgnloejodaa.block Go.Proofs.Ythebpgnloejodaa.opened


theorem xor_u8 (a x : UInt8) : bits BinOp.xor IntKind.u8 (a.toNat : Int) (x.toNat : Int) = ((a ^^^ x).toNat : Int) := by
  have h1 := a.toNat_lt
  have h2 := x.toNat_lt
  rw [u8_xor_nat _ _ (by omega) (by omega), UInt8.toNat_xor]
theorem open_no {l : List UInt8} (hl : l.length ≤ 5000) (h : isSeal l = false) (w : World) : Calls Try.prog 7 #[.string ⟨l.toArray⟩] w fun e w' => e = .returned (.tuple #[.string ⟨#[]⟩, .bool false]) ∧ Below w.heap.size w w' := by
  have k := open_any l (by omega) w
  unfold opened at k
  rw [show openT l = [] from by simp [openT, h], h] at k
  exact k
theorem walk (s : ByteArray) (n t : Int) (hs : s.size ≤ 140737488351232) (wn : (Lit.int .i64 n).wf = true) (wt : (Lit.int .u8 t).wf = true) (w : World) :
    Calls Try.prog 6 #[.string s, .int .i64 n, .int .u8 t] w fun e w' => e = .returned (.bool true) ∧ Below w.heap.size w w' := by
  obtain ⟨l0, h0⟩ := bounds_i64 wn
  obtain ⟨l1, h1⟩ := bounds_u8 wt
  clear wn wt
  obtain ⟨l, rfl⟩ : ∃ l : List UInt8, s = ⟨l.toArray⟩ := ⟨s.data.toList, by simp⟩
  have hl : l.length ≤ 140737488351232 := hs
  clear hs
  go_enter Try.func6, Try.ntmps6
  go_wp2_with fail
  refine (works_any _).mono ?_
  rintro e w1 ⟨rfl, b1⟩
  by_cases hc : 2000 < l.length
  · go_wp2
    go_ret
    exact ⟨rfl, b1⟩
  · by_cases ht : t = 0
    · go_wp2
      go_ret
      exact ⟨rfl, b1⟩
    · obtain ⟨x, rfl⟩ : ∃ x : UInt8, t = (x.toNat : Int) := ⟨UInt8.ofNat t.toNat, by simp; omega⟩
      have hx0 : ((x.toNat : Int) == 0) = false := by simpa using ht
      have K := seal_any l hl
      have hno := fun (p : Nat) (hp : p < (sealL l).length) => seal_byte (x := x) hp (by simpa using ht)
      have hcl : (sealL l).length ≤ 2004 := by rw [sealL_length]; omega
      have hc4 : 4 ≤ (sealL l).length := by rw [sealL_length]; omega
      generalize sealL l = c at K hno hcl hc4
      obtain ⟨k, hk, hkl⟩ := place n (d := c.length) (by omega) (by omega)
      have hkw := IntWalk.wrap64_in (k : Int) (by omega)
      have Hno := Lib.hid (hno k hkl)
      have HK := Lib.hid K
      clear K hno ht
      go_wp2_with fail
      refine (HK.out _).mono ?_
      rintro e w2 ⟨rfl, b2⟩
      obtain ⟨cap, w3, hcv, hB, b3⟩ := bts_of_string (src := 9) (dst := 32) (e := 5) w2 c Try.underlying9 Try.underlying32 Try.underlying5
      have b4 := then_below (then_below b1 b2) b3
      have hg := (then_below b1 b2).size
      clear b1 b2 b3
      have hr := hB.read k hkl
      have hf := hB.soft k hkl
      have hx := xor_u8 c[k] x
      generalize c[k] ^^^ x = y at hx Hno
      have hB2 := hB.store k hkl y
      have hcv2 := hB2.text (P := Try.prog) (src := 32) (dst := 9) cap Try.underlying32 Try.underlying9 Try.underlying5
      rw [List.length_set] at hcv2
      have b5 : Below w.heap.size w (w3.setCell ⟨w2.heap.size, k, none⟩ (.int .u8 (y.toNat : Int))) := b4.setCell hg _
      clear hB2 b4 hB
      go_wp2_with fail
      refine (open_no (by simp; omega) Hno.out _).mono ?_
      rintro e w4 ⟨rfl, b6⟩
      go_wp2
      go_ret
      exact ⟨rfl, then_below b5 b6⟩

theorem told (W : World) (args : Array Value) (h : Fed Try.prog W [9, 3, 5] args) : Calls Try.prog 6 args W fun e W' => e = .returned (.bool true) ∧ Below W.heap.size W W' := by
  obtain ⟨v0, v1, v2, rfl⟩ := args3 h.count
  obtain ⟨⟨_, o0⟩, r0⟩ := h.each 0 9 v0 rfl rfl
  obtain ⟨⟨_, o1⟩, r1⟩ := h.each 1 3 v1 rfl rfl
  obtain ⟨⟨_, o2⟩, r2⟩ := h.each 2 5 v2 rfl rfl
  obtain ⟨a0, q0⟩ := r0 (opens_str Try.underlying9)
  obtain ⟨rfl, w0⟩ := top_str Try.underlying9 o0 q0
  obtain ⟨a1, q1⟩ := r1 (opens_int Try.underlying3)
  obtain ⟨rfl, w1⟩ := top_int Try.underlying3 o1 q1
  obtain ⟨a2, q2⟩ := r2 (opens_int Try.underlying5)
  obtain ⟨rfl, w2⟩ := top_int Try.underlying5 o2 q2
  exact walk a0 a1 a2 w0 w1 w2 W

/-! ### The row -/
theorem own : ownKnob Try.prog.godebug = none := by kernel_rfl
theorem laidOut : laidOutB Try.prog = true := by kernel_rfl
set_option maxRecDepth 100000 in
theorem lifted (os : Os) (started : os.Started) (H : Type) (enc : TypeId × Value → H) :
    ReturnsInHanded {} Try.checked os 6 .any (Rows.crcBytesSpec.pre6 enc Try.prog Try.f6 Rows.crcBytesRow.domain false) (Rows.crcBytesSpec.post enc Try.prog Try.f6 false true false false) :=
  lift (C := Try.checked) (fn := Try.f6) (tb := 4) (ts := [9, 3, 5]) own started (by kernel_rfl) Try.func6 laidOut (by kernel_rfl) (by kernel_rfl) (by kernel_rfl) Try.underlying4 rfl
    (fun ds h => by
      match ds, h with
      | [_, _, _], _ => rfl)
    (ChangeSpec.witness6 (enc := enc) (C := Try.checked) false ⟨#[], #[.string ByteArray.empty, .int .i64 0, .int .u8 0], []⟩ 8 (by kernel_rfl) (by kernel_rfl) (by kernel_rfl) (by kernel_rfl)) told

theorem over : Rows.crcBytesRow.holds Try.pinned (OpenSpec.ofChange Rows.crcBytesSpec) :=
  OpenClaim.holds_of_wide 6 Try.f6 rfl rfl rfl rfl rfl rfl rfl ⟨rfl, rfl, rfl, rfl, rfl⟩ rfl rfl rfl rfl rfl (by kernel_rfl) Try.func6 (by kernel_rfl)
    (of_decide_eq_true (by kernel_rfl)) (by unfold Func.isWrapper; first | (rw [if_pos (by decide +kernel)]; kernel_rfl) | (rw [if_neg (by decide +kernel)]; exact ⟨rfl, rfl⟩))
    (fun os started H enc _ => lifted os started H enc)

theorem proved : Rows.CrcBytesSaid := over
#print axioms proved
end Go.Proofs.Ythebpgnloejodaa.crcBytes
