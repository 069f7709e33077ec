/-
  The contracts of num.Add, num.Sub, num.Ceil, num.Mix, num.Part, num.Floor and of the document's own ones, at any numbers of their kinds.
-/
import Derived.Test.YtpbdfiddgbkkmaaDoorRows
import Derived.WalkKit
import Derived.ProofKit
import Derived.OpenShut
import Derived.Lib.Hide
import Derived.Deep.QuietTactic
import Derived.BigQuiet
namespace Go.Proofs.YtpbdfiddgbkkmaaDoor.num
open Go.ChangeShapes Go.WideShapes Go.ChangeAt Go.RowKit

def addV (a b : Int) : Int := if a ≤ 1048576 ∧ b ≤ 1048576 ∧ a + b ≤ 1048576 then a + b else 0
def addE (a b : Int) : Int := if a ≤ 1048576 ∧ b ≤ 1048576 then (if a + b ≤ 1048576 then 0 else 9) else 1
def subV (a b : Int) : Int := if a ≤ 1048576 ∧ b ≤ 1048576 ∧ b ≤ a then a - b else 0
def subE (a b : Int) : Int := if a ≤ 1048576 ∧ b ≤ 1048576 then (if b ≤ a then 0 else 9) else 1
def ceilOk (a b : Int) : Prop := 0 ≤ a ∧ a ≤ 1099511627776 ∧ 1 ≤ b ∧ b ≤ 1099511627776
instance (a b : Int) : Decidable (ceilOk a b) := by unfold ceilOk; infer_instance
def ceilV (a b : Int) : Int := if ceilOk a b then (a + b - 1) / b else 0
def ceilE (a b : Int) : Int := if ceilOk a b then 0 else 1

theorem pairU {a b c d : Int} (h : a = b) (h' : c = d) : Ending.returned (.tuple #[.int .u32 a, .int .i64 c]) = .returned (.tuple #[.int .u32 b, .int .i64 d]) := by rw [h, h']
theorem pairI {a b c d : Int} (h : a = b) (h' : c = d) : Ending.returned (.tuple #[.int .i64 a, .int .i64 c]) = .returned (.tuple #[.int .i64 b, .int .i64 d]) := by rw [h, h']
theorem three {a b c d e f : Int} (h : a = b) (h' : c = d) (h'' : e = f) : Ending.returned (.tuple #[.int .i64 a, .int .i64 c, .int .i64 e]) = .returned (.tuple #[.int .i64 b, .int .i64 d, .int .i64 f]) := by rw [h, h', h'']
theorem one32 {a b : Int} (h : a = b) : Ending.returned (.int .u32 a) = .returned (.int .u32 b) := by rw [h]

theorem grown_trans {a b c : World} (h1 : Grown a b) (h2 : Grown b c) : Grown a c :=
  ⟨World.keptBut_trans h1.1 h2.1, fun x => (h2.2.1 x).trans (h1.2.1 x), Nat.le_trans h1.2.2 h2.2.2⟩

theorem ceil_eq_lt (a b : Int) (l' : 1 ≤ b) (hlt : a / b * b < a) : (a + b - 1) / b = a / b + 1 := by
  have e := Int.mul_ediv_add_emod a b
  have hr := Int.emod_lt_of_pos a (show 0 < b by omega)
  have hc : a / b * b = b * (a / b) := Int.mul_comm _ _
  have : (a + b - 1) / b = a / b + 1 ∧ (a + b - 1) % b = a % b - 1 := by
    rw [Int.ediv_emod_unique (by omega)]
    rw [Int.mul_add]
    refine ⟨by omega, by omega, by omega⟩
  exact this.1
theorem ceil_eq_ge (a b : Int) (l' : 1 ≤ b) (hlt : ¬ a / b * b < a) : (a + b - 1) / b = a / b := by
  have e := Int.mul_ediv_add_emod a b
  have hr := Int.emod_nonneg a (show b ≠ 0 by omega)
  have hc : a / b * b = b * (a / b) := Int.mul_comm _ _
  have : (a + b - 1) / b = a / b ∧ (a + b - 1) % b = b - 1 := by
    rw [Int.ediv_emod_unique (by omega)]
    refine ⟨by omega, by omega, by omega⟩
  exact this.1
theorem quo_small (a b : Int) (l : 0 ≤ a) (h : a ≤ 1099511627776) (l' : 1 ≤ b) : 0 ≤ a / b ∧ a / b ≤ 1099511627776 ∧ 0 ≤ a / b * b ∧ a / b * b ≤ 1099511627776 := by
  have e := Int.mul_ediv_add_emod a b
  have hr := Int.emod_nonneg a (show b ≠ 0 by omega)
  have hc : a / b * b = b * (a / b) := Int.mul_comm _ _
  have h0 : 0 ≤ a / b := Int.ediv_nonneg l (by omega)
  have h1 : a / b ≤ a := Int.ediv_le_self b l
  have h2 : 0 ≤ a / b * b := Int.mul_nonneg h0 (by omega)
  omega
def mix1 (a : Int) : Int := IntKind.u64.wrap (bits BinOp.xor IntKind.u64 (IntKind.u64.wrap a) (IntKind.u64.wrap a / 4294967296) * 11400714819323198485)
def mixV (a : Int) : Int := IntKind.u64.wrap (bits BinOp.xor IntKind.u64 (mix1 a) (mix1 a / 536870912) * 13787848793156543929) / 4294967296 % 4294967296
theorem mixV_bd (a : Int) : 0 ≤ mixV a ∧ mixV a ≤ 4294967295 := by
  unfold mixV
  generalize IntKind.u64.wrap _ / 4294967296 = x
  omega
theorem mix_any (a : Int) (w : World) :
    Calls Tryd.prog 29 #[.int .i64 a] w fun e w' => e = .returned (.int .u32 (mixV a)) ∧ w = w' := by
  go_enter Tryd.func29, Tryd.ntmps29
  go_wp2
  go_ret
  exact ⟨one32 (by unfold mixV mix1; rfl), rfl⟩
def partV (a b : Int) : Int := if 1 ≤ b ∧ b ≤ 64 then mixV a % b else 0
def partE (b : Int) : Int := if 1 ≤ b ∧ b ≤ 64 then 0 else 1

theorem part_yes (a b : Int) (l' : 1 ≤ b) (h' : b ≤ 64) (w : World) :
    Calls Tryd.prog 20 #[.int .i64 a, .int .i64 b] w fun e w' => e = .returned (.tuple #[.int .i64 (partV a b), .int .i64 (partE b)]) ∧ w = w' := by
  have hfin : partV a b = mixV a % b ∧ partE b = 0 := by simp [partV, partE, l', h']
  have HF := Lib.hid hfin; clear hfin
  obtain ⟨m0, m1⟩ := mixV_bd a
  have r0 := Int.emod_nonneg (mixV a) (show b ≠ 0 by omega)
  have r1 := Int.emod_lt_of_pos (mixV a) (show 0 < b by omega)
  go_enter Tryd.func20, Tryd.ntmps20
  go_wp2_with fail
  refine (mix_any a _).mono ?_
  rintro e w' ⟨rfl, rfl⟩
  go_wp2
  go_ret2
  exact ⟨pairI HF.out.1.symm HF.out.2.symm, rfl⟩
theorem part_no (a b : Int) (hno : b < 1 ∨ 64 < b) (w : World) :
    Calls Tryd.prog 20 #[.int .i64 a, .int .i64 b] w fun e w' => e = .returned (.tuple #[.int .i64 (partV a b), .int .i64 (partE b)]) ∧ w = w' := by
  have hfin : partV a b = 0 ∧ partE b = 1 := by
    have : ¬ (1 ≤ b ∧ b ≤ 64) := by omega
    simp [partV, partE, this]
  have HF := Lib.hid hfin; clear hfin
  rcases hno with c | c
  · go_enter Tryd.func20, Tryd.ntmps20
    go_wp2
    go_ret2
    exact ⟨pairI HF.out.1.symm HF.out.2.symm, rfl⟩
  · have c' : ¬ b < 1 := by omega
    go_enter Tryd.func20, Tryd.ntmps20
    go_wp2
    go_ret2
    exact ⟨pairI HF.out.1.symm HF.out.2.symm, rfl⟩
theorem part_any (a b : Int) (w : World) :
    Calls Tryd.prog 20 #[.int .i64 a, .int .i64 b] w fun e w' => e = .returned (.tuple #[.int .i64 (partV a b), .int .i64 (partE b)]) ∧ w = w' := by
  by_cases c : 1 ≤ b ∧ b ≤ 64
  · exact part_yes a b c.1 c.2 w
  · exact part_no a b (by omega) w

def floorQ (a b : Int) : Int := if 1 ≤ b then a / b else 0
def floorR (a b : Int) : Int := if 1 ≤ b then a % b else 0
def floorE (b : Int) : Int := if 1 ≤ b then 0 else 1
theorem floor_pos (a b : Int) (l' : 1 ≤ b) (hr : ¬ a.tmod b < 0) : a / b = a.tdiv b ∧ a % b = a.tmod b := by
  have e := Int.mul_tdiv_add_tmod a b
  have hb := Int.tmod_lt_of_pos a (show 0 < b by omega)
  rw [Int.ediv_emod_unique (by omega)]
  omega
theorem floor_neg (a b : Int) (l : -9223372036854775808 ≤ a) (l' : 1 ≤ b) (h' : b ≤ 9223372036854775807) (hr : a.tmod b < 0) :
    a / b = a.tdiv b - 1 ∧ a % b = a.tmod b + b ∧ wrap64 (a.tdiv b - 1) = a.tdiv b - 1 ∧ wrap64 (a.tmod b + b) = a.tmod b + b := by
  have e := Int.mul_tdiv_add_tmod a b
  have hb : -b < a.tmod b := Int.lt_tmod_of_pos a (by omega)
  have ha : a < 0 := by
    rcases Int.lt_or_le a 0 with x | x
    · exact x
    · have := Int.tmod_nonneg b x; omega
  have hT : a.tdiv b ≤ 0 := by
    have h0 : 0 ≤ (-a).tdiv b := Int.tdiv_nonneg (by omega) (by omega)
    rw [Int.neg_tdiv] at h0
    omega
  have h2 : 2 ≤ b := by
    rcases Int.lt_or_le b 2 with x | x
    · obtain rfl : b = 1 := by omega
      simp at hr
    · exact x
  have hm : b * a.tdiv b ≤ 2 * a.tdiv b := Int.mul_le_mul_of_nonpos_right h2 hT
  have h1 : a / b = a.tdiv b - 1 ∧ a % b = a.tmod b + b := by
    rw [Int.ediv_emod_unique (by omega), Int.mul_sub]
    omega
  refine ⟨h1.1, h1.2, IntWalk.wrap64_in _ ⟨by omega, by omega⟩, IntWalk.wrap64_in _ ⟨by omega, by omega⟩⟩

theorem floor_yes (a b : Int) (l : -9223372036854775808 ≤ a) (h : a ≤ 9223372036854775807) (l' : 1 ≤ b) (h' : b ≤ 9223372036854775807) (w : World) :
    Calls Tryd.prog 32 #[.int .i64 a, .int .i64 b] w fun e w' => e = .returned (.tuple #[.int .i64 (floorQ a b), .int .i64 (floorR a b), .int .i64 (floorE b)]) ∧ Grown w w' := by
  have hE : floorE b = 0 := by simp [floorE, l']
  by_cases hr : a.tmod b < 0
  · obtain ⟨fq, fr, fw, fw'⟩ := floor_neg a b l l' h' hr
    have hfin : floorQ a b = wrap64 (a.tdiv b - 1) ∧ floorR a b = wrap64 (a.tmod b + b) := by simp only [floorQ, floorR, if_pos l']; omega
    have HF := Lib.hid hfin; have HE := Lib.hid hE; clear hfin hE fq fr fw fw'
    go_enter Tryd.func32, Tryd.ntmps32
    go_wp2
    go_quiet (fail)
    go_wp2
    go_ret3
    exact ⟨three HF.out.1.symm HF.out.2.symm HE.out.symm, by repeat (first | exact Grown.refl _ | apply Grown.drew | apply Grown.alloc)⟩
  · obtain ⟨fq, fr⟩ := floor_pos a b l' hr
    have hfin : floorQ a b = a.tdiv b ∧ floorR a b = a.tmod b := by simp only [floorQ, floorR, if_pos l']; omega
    have HF := Lib.hid hfin; have HE := Lib.hid hE; clear hfin hE fq fr
    go_enter Tryd.func32, Tryd.ntmps32
    go_wp2
    go_quiet (fail)
    go_wp2
    go_ret3
    exact ⟨three HF.out.1.symm HF.out.2.symm HE.out.symm, by repeat (first | exact Grown.refl _ | apply Grown.drew | apply Grown.alloc)⟩
theorem floor_no (a b : Int) (c : b < 1) (w : World) :
    Calls Tryd.prog 32 #[.int .i64 a, .int .i64 b] w fun e w' => e = .returned (.tuple #[.int .i64 (floorQ a b), .int .i64 (floorR a b), .int .i64 (floorE b)]) ∧ Grown w w' := by
  have hfin : floorQ a b = 0 ∧ floorR a b = 0 ∧ floorE b = 1 := by
    have : ¬ 1 ≤ b := by omega
    simp [floorQ, floorR, floorE, this]
  have HF := Lib.hid hfin; clear hfin
  go_enter Tryd.func32, Tryd.ntmps32
  go_wp2
  go_ret3
  exact ⟨three HF.out.1.symm HF.out.2.1.symm HF.out.2.2.symm, Grown.refl _⟩
theorem floor_any (a b : Int) (l : -9223372036854775808 ≤ a) (h : a ≤ 9223372036854775807) (h' : b ≤ 9223372036854775807) (w : World) :
    Calls Tryd.prog 32 #[.int .i64 a, .int .i64 b] w fun e w' => e = .returned (.tuple #[.int .i64 (floorQ a b), .int .i64 (floorR a b), .int .i64 (floorE b)]) ∧ Grown w w' := by
  by_cases c : 1 ≤ b
  · exact floor_yes a b l h c h' w
  · exact floor_no a b (by omega) w

end Go.Proofs.YtpbdfiddgbkkmaaDoor.num
