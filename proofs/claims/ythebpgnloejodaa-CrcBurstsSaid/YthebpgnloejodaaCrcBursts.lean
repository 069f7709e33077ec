import Derived.Test.YthebpgnloejodaaRows
import Derived.WalkKit
import Derived.ProofKit
import Derived.OpenShut
import Derived.Lib.Hide
import Derived.Deep.QuietTactic
import Derived.BigQuiet
import Derived.Laws.BitsAllLaws
import Derived.WalkSpells
import Derived.Laws.IdiomStrings
import Derived.Test.YthebpgnloejodaaWorks
import Derived.Test.YthebpgnloejodaaPlace
import Derived.Test.YthebpgnloejodaaBts
import Derived.BigRegion
import Derived.Deep.DeepCutAuto
import Derived.Deep.CutBlock
import Derived.Test.YthebpgnloejodaaOpen
import Derived.Test.YthebpgnloejodaaBlock
namespace Go.Proofs.Ythebpgnloejodaa.crcBursts
open Go.ChangeShapes Go.WideShapes Go.ChangeAt Go.RowKit
open Go.Proofs.Ythebpgnloejodaa.crc Go.Proofs.Ythebpgnloejodaa.bts Go.Proofs.Ythebpgnloejodaa.crcm Go.Proofs.Ythebpgnloejodaa.block Go.Proofs.Ythebpgnloejodaa.opened


theorem xor_u8 (a x : UInt8) : bits BinOp.xor IntKind.u8 (a.toNat : Int) (x.toNat : Int) = ((a ^^^ x).toNat : Int) := by
  have h1 := a.toNat_lt
  have h2 := x.toNat_lt
  rw [u8_xor_nat _ _ (by omega) (by omega), UInt8.toNat_xor]
theorem open_no {l : List UInt8} (hl : l.length ≤ 5000) (h : isSeal l = false) (w : World) : Calls Try.prog 7 #[.string ⟨l.toArray⟩] w fun e w' => e = .returned (.tuple #[.string ⟨#[]⟩, .bool false]) ∧ Below w.heap.size w w' := by
  have k := open_any l (by omega) w
  unfold opened at k
  rw [show openT l = [] from by simp [openT, h], h] at k
  exact k
theorem turned (a : UInt8) (x q s : Nat) (hx : x < 4294967296) (hs : s < 8) :
    ∃ b : UInt8, b.toNat = 2 ^ s * (x / 2 ^ q % 2) ∧ bits BinOp.xor IntKind.u8 (a.toNat : Int) (bits BinOp.and IntKind.u32 ((x : Int) / 2 ^ q) 1 % 256 * 2 ^ s % 256) = ((a ^^^ b).toNat : Int) := by
  have hd : x / 2 ^ q < 4294967296 := Nat.lt_of_le_of_lt (Nat.div_le_self _ _) hx
  have e1 : ((x : Int) / 2 ^ q) = ((x / 2 ^ q : Nat) : Int) := by
    rw [Int.natCast_ediv, Int.natCast_pow]; rfl
  have hm : x / 2 ^ q % 2 < 2 := Nat.mod_lt _ (by omega)
  rw [e1, and_one _ hd]
  generalize x / 2 ^ q % 2 = m at hm
  have hlt : 2 ^ s * m < 256 := by
    have h1 : 2 ^ s ≤ 2 ^ 7 := Nat.pow_le_pow_right (by omega) (by omega)
    have h2 : (2 : Nat) ^ 7 = 128 := by decide
    have h3 : 2 ^ s * m ≤ 128 * 1 := Nat.mul_le_mul (by omega) (by omega)
    omega
  have e2 : ((m : Int) % 256 * 2 ^ s % 256) = ((2 ^ s * m : Nat) : Int) := by
    rw [show ((m : Int) % 256) = (m : Int) by omega, show ((m : Int) * 2 ^ s) = ((2 ^ s * m : Nat) : Int) by rw [Int.natCast_mul, Int.natCast_pow, Int.mul_comm]; rfl]
    omega
  have hb : (UInt8.ofNat (2 ^ s * m)).toNat = 2 ^ s * m := by simp; omega
  refine ⟨UInt8.ofNat (2 ^ s * m), hb, ?_⟩
  rw [e2, ← xor_u8, hb]
theorem walk (s : ByteArray) (n t : Int) (hs : s.size ≤ 140737488351232) (wn : (Lit.int .i64 n).wf = true) (wt : (Lit.int .u32 t).wf = true) (w : World) :
    Calls Try.prog 5 #[.string s, .int .i64 n, .int .u32 t] w fun e w' => e = .returned (.bool true) ∧ Below w.heap.size w w' := by
  obtain ⟨l0, h0⟩ := bounds_i64 wn
  obtain ⟨l1, h1⟩ := bounds_u32 wt
  clear wn wt
  obtain ⟨l, rfl⟩ : ∃ l : List UInt8, s = ⟨l.toArray⟩ := ⟨s.data.toList, by simp⟩
  have hl : l.length ≤ 140737488351232 := hs
  clear hs
  go_enter Try.func5, Try.ntmps5
  go_wp2_with fail
  refine (works_any _).mono ?_
  rintro e w1 ⟨rfl, b1⟩
  by_cases hc : 2000 < l.length
  · go_wp2
    go_ret
    exact ⟨rfl, b1⟩
  · by_cases hc2 : l.length < 4
    · go_wp2
      go_ret
      exact ⟨rfl, b1⟩
    · by_cases ht : t = 0
      · go_wp2
        go_ret
        exact ⟨rfl, b1⟩
      · obtain ⟨x, rfl⟩ : ∃ x : Nat, t = (x : Int) := ⟨t.toNat, by omega⟩
        have hx0 : ((x : Int) == 0) = false := by simpa using ht
        obtain ⟨k, hk, hkl⟩ := place n (d := 8 * l.length - 31) (by omega) (by omega)
        rw [show ((8 * l.length - 31 : Nat) : Int) = 8 * (l.length : Int) - 31 by omega] at hk
        have hkw := IntWalk.wrap64_in (k : Int) (by omega)
        obtain ⟨cap, w2, hcv, hB, b2⟩ := bts_of_string (P := Try.prog) (src := 9) (dst := 32) (e := 5) w1 l Try.underlying9 Try.underlying32 Try.underlying5
        have b3 := then_below b1 b2
        have hg := b1.size
        clear b1 b2
        go_wp2_with fail
        clear hcv
        go_loopw [9] (fun i wr => ∃ (q : Nat) (r : List UInt8), i = .int .i64 q ∧ q ≤ 32 ∧ r.length = l.length ∧ num r = num l ^^^ (2 ^ k * (x % 2 ^ q)) ∧ Bts wr w1.heap.size 5 r ∧ Below w.heap.size w wr)
          (fun i _ => (32 - intOf i).toNat)
        case atStart => exact ⟨0, l, rfl, by omega, rfl, by simp [Nat.mod_one], hB, b3⟩
        case round =>
          obtain ⟨q, r, rfl, hq, hrl, hnum, hB, hb⟩ := hrel
          have Hnum := Lib.hid hnum
          clear hnum
          by_cases hq32 : q < 32
          · have hjl : (k + q) / 8 < r.length := by omega
            have hB' : Bts wr.drew w1.heap.size 5 r := hB.drew
            have hr := hB'.read _ hjl
            have hf := hB'.soft _ hjl
            go_wp2_with fail
            go_region
            obtain ⟨b, hb1, hb2⟩ := turned (r[(k + q) / 8]'hjl) x q ((k + q) % 8) (by omega) (by omega)
            have hn2 := num_turn Hnum.out hjl (s := (k + q) % 8) (by omega) b hb1
            generalize (r[(k + q) / 8]'hjl) ^^^ b = y at hb2 hn2
            have hB2 := hB.store _ hjl y
            rw [hb2]
            have hb3 : Below w.heap.size w (wr.setCell ⟨w1.heap.size, (k + q) / 8, none⟩ (.int .u8 (y.toNat : Int))) := hb.setCell hg _
            have Hn2 := Lib.hid hn2
            clear hn2 hb1 hb2 hr hf hB' hB
            generalize wr.setCell ⟨w1.heap.size, (k + q) / 8, none⟩ (.int .u8 (y.toNat : Int)) = wy at hB2 hb3
            go_wp2
            go_roundw
            case rel => exact ⟨q + 1, _, by go_num, by omega, by rw [List.length_set]; exact hrl, Hn2.out, hB2.drew, hb3.drew⟩
            case measure => simp [intOf]; omega
          · have hx32 : x % 2 ^ q = x := by
              rw [show q = 32 from by omega]
              exact Nat.mod_eq_of_lt (by omega)
            have hnum := Hnum.out
            rw [hx32] at hnum
            have hne := sum_burst (l := l) (r := r) (f := k) (t := x) hrl.symm (by omega) (by omega) (by simpa using ht) hnum
            have hne2 : ((sumL r : Int) == (sumL l : Int)) = false := by
              simp only [beq_eq_false_iff_ne, ne_eq]
              omega
            have hcv := hB.text (P := Try.prog) (src := 32) (dst := 9) cap Try.underlying32 Try.underlying9 Try.underlying5
            rw [hrl] at hcv
            clear Hnum hnum hne hx32 hB b3
            go_wp2_with fail
            refine (sum_any r (by omega) _).mono ?_
            rintro e w' ⟨rfl, rfl⟩
            go_wp2_with fail
            refine (sum_any l hl _).mono ?_
            rintro e w' ⟨rfl, rfl⟩
            go_wp2_with fail
            clear hcv
            have K := seal_any l hl
            have hno := fun (r' : List UInt8) (h1 : r'.length = (sealL l).length) (h : num r' = num (sealL l) ^^^ (2 ^ (32 + k) * x)) =>
              seal_burst (l := l) (r := r') (f := 32 + k) (t := x) (by rw [h1, sealL_length]) (by omega) (by omega) (by omega) (by simpa using ht) h
            have hcl : (sealL l).length ≤ 2004 := by rw [sealL_length]; omega
            have hc4 : l.length + 4 ≤ (sealL l).length := by rw [sealL_length]; omega
            generalize sealL l = c at K hno hcl hc4
            have Hno := Lib.hid hno
            have HK := Lib.hid K
            clear K hno ht hne2 hrl
            refine (HK.out _).mono ?_
            rintro e w3 ⟨rfl, b4⟩
            obtain ⟨cap', w4, hcv, hB, b5⟩ := bts_of_string (P := Try.prog) (src := 9) (dst := 32) (e := 5) w3 c Try.underlying9 Try.underlying32 Try.underlying5
            have b6 := then_below (then_below hb b4) b5
            have hg2 := (then_below hb b4).size
            clear hb b4 b5 hg
            go_wp2_with fail
            clear hcv
            go_loopw [11] (fun i wr => ∃ (q : Nat) (r : List UInt8), i = .int .i64 q ∧ q ≤ 32 ∧ r.length = c.length ∧ num r = num c ^^^ (2 ^ (32 + k) * (x % 2 ^ q)) ∧ Bts wr w3.heap.size 5 r ∧ Below w.heap.size w wr)
              (fun i _ => (32 - intOf i).toNat)
            case atStart => exact ⟨0, c, rfl, by omega, rfl, by simp [Nat.mod_one], hB, b6⟩
            case round =>
              obtain ⟨q', r', rfl, hq', hrl, hnum, hB, hb⟩ := hrel
              have Hnum := Lib.hid hnum
              clear hnum
              by_cases hq32 : q' < 32
              · have hjl : (32 + k + q') / 8 < r'.length := by omega
                have hB' : Bts wr.drew w3.heap.size 5 r' := hB.drew
                have hr := hB'.read _ hjl
                have hf := hB'.soft _ hjl
                go_wp2_with fail
                go_region
                obtain ⟨b, hb1, hb2⟩ := turned (r'[(32 + k + q') / 8]'hjl) x q' ((32 + k + q') % 8) (by omega) (by omega)
                have hn2 := num_turn Hnum.out hjl (s := (32 + k + q') % 8) (by omega) b hb1
                generalize (r'[(32 + k + q') / 8]'hjl) ^^^ b = y at hb2 hn2
                have hB2 := hB.store _ hjl y
                rw [hb2]
                have hb3 : Below w.heap.size w (wr.setCell ⟨w3.heap.size, (32 + k + q') / 8, none⟩ (.int .u8 (y.toNat : Int))) := hb.setCell hg2 _
                have Hn2 := Lib.hid hn2
                clear hn2 hb1 hb2 hr hf hB' hB
                generalize wr.setCell ⟨w3.heap.size, (32 + k + q') / 8, none⟩ (.int .u8 (y.toNat : Int)) = wy at hB2 hb3
                go_wp2
                go_roundw
                case rel => exact ⟨q' + 1, _, by go_num, by omega, by rw [List.length_set]; exact hrl, Hn2.out, hB2.drew, hb3.drew⟩
                case measure => simp [intOf]; omega
              · have hnum := Hnum.out
                rw [show x % 2 ^ q' = x from by
                  rw [show q' = 32 from by omega]
                  exact Nat.mod_eq_of_lt (by omega)] at hnum
                have hs := Lib.hid (Hno.out r' hrl hnum)
                have hcv := hB.text (P := Try.prog) (src := 32) (dst := 9) cap' Try.underlying32 Try.underlying9 Try.underlying5
                rw [hrl] at hcv
                clear hnum Hnum Hno hB
                go_wp2_with fail
                refine (open_no (by omega) hs.out _).mono ?_
                rintro e w5 ⟨rfl, b7⟩
                go_wp2
                go_ret
                exact ⟨rfl, then_below hb b7⟩

theorem told (W : World) (args : Array Value) (h : Fed Try.prog W [9, 3, 22] args) : Calls Try.prog 5 args W fun e W' => e = .returned (.bool true) ∧ Below W.heap.size W W' := by
  obtain ⟨v0, v1, v2, rfl⟩ := args3 h.count
  obtain ⟨⟨_, o0⟩, r0⟩ := h.each 0 9 v0 rfl rfl
  obtain ⟨⟨_, o1⟩, r1⟩ := h.each 1 3 v1 rfl rfl
  obtain ⟨⟨_, o2⟩, r2⟩ := h.each 2 22 v2 rfl rfl
  obtain ⟨a0, q0⟩ := r0 (opens_str Try.underlying9)
  obtain ⟨rfl, w0⟩ := top_str Try.underlying9 o0 q0
  obtain ⟨a1, q1⟩ := r1 (opens_int Try.underlying3)
  obtain ⟨rfl, w1⟩ := top_int Try.underlying3 o1 q1
  obtain ⟨a2, q2⟩ := r2 (opens_int Try.underlying22)
  obtain ⟨rfl, w2⟩ := top_int Try.underlying22 o2 q2
  exact walk a0 a1 a2 w0 w1 w2 W

/-! ### The row -/
theorem own : ownKnob Try.prog.godebug = none := by kernel_rfl
theorem laidOut : laidOutB Try.prog = true := by kernel_rfl
set_option maxRecDepth 100000 in
theorem lifted (os : Os) (started : os.Started) (H : Type) (enc : TypeId × Value → H) :
    ReturnsInHanded {} Try.checked os 5 .any (Rows.crcBurstsSpec.pre6 enc Try.prog Try.f5 Rows.crcBurstsRow.domain false) (Rows.crcBurstsSpec.post enc Try.prog Try.f5 false true false false) :=
  lift (C := Try.checked) (fn := Try.f5) (tb := 4) (ts := [9, 3, 22]) own started (by kernel_rfl) Try.func5 laidOut (by kernel_rfl) (by kernel_rfl) (by kernel_rfl) Try.underlying4 rfl
    (fun ds h => by
      match ds, h with
      | [_, _, _], _ => rfl)
    (ChangeSpec.witness6 (enc := enc) (C := Try.checked) false ⟨#[], #[.string ByteArray.empty, .int .i64 0, .int .u32 0], []⟩ 8 (by kernel_rfl) (by kernel_rfl) (by kernel_rfl) (by kernel_rfl)) told

theorem over : Rows.crcBurstsRow.holds Try.pinned (OpenSpec.ofChange Rows.crcBurstsSpec) :=
  OpenClaim.holds_of_wide 5 Try.f5 rfl rfl rfl rfl rfl rfl rfl ⟨rfl, rfl, rfl, rfl, rfl⟩ rfl rfl rfl rfl rfl (by kernel_rfl) Try.func5 (by kernel_rfl)
    (of_decide_eq_true (by kernel_rfl)) (by unfold Func.isWrapper; first | (rw [if_pos (by decide +kernel)]; kernel_rfl) | (rw [if_neg (by decide +kernel)]; exact ⟨rfl, rfl⟩))
    (fun os started H enc _ => lifted os started H enc)

theorem proved : Rows.CrcBurstsSaid := over
#print axioms proved
end Go.Proofs.Ythebpgnloejodaa.crcBursts
