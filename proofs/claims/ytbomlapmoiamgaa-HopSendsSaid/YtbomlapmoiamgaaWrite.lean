/-
  The contracts of code.Num, code.Signed, code.Text and of the ones of watershedref02: the bytes that each returns, at any input.
-/
import Derived.Test.YtbomlapmoiamgaaRows
import Derived.WalkKit
import Derived.ProofKit
import Derived.OpenShut
import Derived.Lib.Hide
import Derived.Deep.QuietTactic
import Derived.BigQuiet
import Derived.Laws.BitsAllLaws
import Derived.WalkSpells
import Derived.Laws.IdiomStrings
import Derived.Test.YtbomlapmoiamgaaEnc
set_option linter.unusedSimpArgs false
set_option linter.unusedVariables false
namespace Go.Proofs.Ytbomlapmoiamgaa.code
open Go.ChangeShapes Go.WideShapes Go.ChangeAt Go.RowKit
open Go.Proofs.Ytbomlapmoiamgaa.enc
theorem info5 : (Try.prog.info? 5).map (fun i => (i.zero, i.size, i.bytes)) = some (some (.int .u8 0), 1, 1) := by kernel_rfl
def cell8 (b : UInt8) : Value := .int .u8 (b.toNat : Int)
theorem one_oneCell (k : IntKind) (x : Int) : ∀ u ∈ [Value.int k x], u.oneCell' = true := by
  intro u hu; simp at hu; subst hu; rfl
/-- 'string(b)' of a row of the call's own. -/
theorem string_of_own {P : Program} {w : World} {src dst e : TypeId} {base : Nat} {v : Value} {n : Nat} {l : List UInt8} (hs : P.underlying src = some (.slice e)) (he : P.underlying e = some (.int .u8)) (hd : P.underlying dst = some .string)
    (h : w.ownsRow base e 1 v n (l.map cell8)) : (convert src dst v).run P w = .ok (.string ⟨l.toArray⟩) w := by
  have hn : l.length = n := by have := h.1; simpa using this
  subst hn
  rcases h.2 with ⟨rfl, h0⟩ | ⟨g, cap, cur, rfl, _⟩
  · obtain rfl : l = [] := List.eq_nil_of_length_eq_zero h0
    rw [run_convert_bytes_string w src dst e none 0 0 hs he hd]
    rfl
  · refine run_convert_bytes_back w src dst e _ cap l hs he hd fun j hj => ?_
    exact h.cells rfl j _ (by simp [hj, cell8])
theorem byte_more (m : Nat) : Value.int IntKind.u8 (bits BinOp.or IntKind.u8 ((m : Int) % 128) 128) = cell8 (UInt8.ofNat (m % 128 + 128)) := by
  have h : ((m : Int) % 128) = ((m % 128 : Nat) : Int) := by omega
  rw [h, show (128 : Int) = ((128 : Nat) : Int) from rfl, u8_or_nat _ 128 (by omega) (by omega)]
  have h2 : m % 128 ||| 128 = m % 128 + 128 := by rw [Nat.or_comm, nat_join 7 128 (m % 128) (by decide) (by omega)]; omega
  rw [h2]
  simp [cell8]
  omega

theorem byte_sum (m : Nat) : Value.int IntKind.u8 ((m : Int) % 128 + 128) = cell8 (UInt8.ofNat (m % 128 + 128)) := by
  simp [cell8]
  omega
theorem byte_last {m : Nat} (h : m < 128) : Value.int IntKind.u8 (m : Int) = cell8 (UInt8.ofNat m) := by
  simp [cell8]
  omega
theorem str_eq {a b : List UInt8} (h : a = b) : Ending.returned (.string ⟨a.toArray⟩) = .returned (.string ⟨b.toArray⟩) := by rw [h]

set_option maxRecDepth 100000 in
set_option maxHeartbeats 400000 in
theorem num_any (v : Nat) (hv : v < 18446744073709551616) (w : World) :
    Calls Try.prog 60 #[.int .u64 v] w fun e w' => e = .returned (.string ⟨(enc v).toArray⟩) ∧ Below w.heap.size w w' := by
  obtain ⟨i0, hi, hz0, hz1, hz2⟩ := info_parts info5
  have hv' := hv
  clear hv
  go_enter Try.func60, Try.ntmps60
  go_wp2_with (at_make; refine wpList_make_own _ rfl _ _ 86 rfl w.heap.size 5 i0 (.int .u8 0) 1 Try.underlying86 hi hz0 hz1 _ _ _ 10 rfl rfl (by omega) (by rw [hz2]; omega) (by unfold maxLen; omega) (Nat.le_refl _) ?_; intro w1 hown1 hgrow1)
  have hb1 : Below w.heap.size w w1 := (Below.refl _ _).grown hgrow1 (Nat.le_refl _) (by simp)
  clear hgrow1
  go_loopw [0, 3] (fun n s wr => ∃ (k m : Nat) (xs : List UInt8), n = .int .u64 m ∧ m < 128 ^ (k + 1) ∧ m < 18446744073709551616 ∧ xs.length + k = 9 ∧ enc v = xs ++ encF k m ∧ wr.ownsRow w.heap.size 5 1 s xs.length (xs.map cell8) ∧ Below w.heap.size w wr)
     (fun n _ _ => (intOf n).toNat)
  case atStart => exact ⟨9, v, [], rfl, start_enc hv', hv', rfl, rfl, hown1, hb1⟩
  case round =>
    obtain ⟨k, m, xs, rfl, hm, hm', hlen, hx, hown, hbel⟩ := hrel
    have Hx := Lib.hid hx
    have Hlen := Lib.hid hlen
    have Hm' := Lib.hid hm'
    have Hm := Lib.hid hm
    clear hx hlen hm hown1 hv' hm'
    have hl9 : xs.length ≤ 9 := by have := Hlen.out; omega
    by_cases hlt : 128 ≤ m
    · go_wp2_with (at_builtin; refine wpList_append_own _ rfl _ _ 86 rfl w.heap.size 5 i0 (.int .u8 0) 1 1 Try.underlying86 hi hz0 hz1 hz2 rfl (by decide) _ _ _ rfl (hown.alloc _) _ 1 1 [_] rfl rfl (cell_one_new _ _ _) (one_oneCell _ _) (by unfold maxLen; omega) (by omega) (by have := hbel.size; simp; omega) ?_)
      intro v' w2 hown2 hgrow2 _
      rw [byte_more] at hown2
      have hb2 : Below w.heap.size w w2 := (hbel.alloc hbel.size _).grown hgrow2 (by have := hbel.size; simp; omega) (fun k hk => (hown.lt k hk).1)
      clear hgrow2 hown hbel
      go_wp2
      obtain ⟨k', h1, h2, h3⟩ := round_enc Hx.out Hlen.out Hm.out hlt
      have hown3 : w2.ownsRow w.heap.size 5 1 v' (xs ++ [UInt8.ofNat (m % 128 + 128)]).length ((xs ++ [UInt8.ofNat (m % 128 + 128)]).map cell8) := by simpa using hown2
      go_roundw
      case rel => exact ⟨k', m / 128, _, by go_num, h3, by have := Hm'.out; omega, h2, h1, hown3, hb2⟩
      case measure => simp [intOf]; omega
    · have hlt' : m < 128 := by omega
      go_wp2_with (at_builtin; refine wpList_append_own _ rfl _ _ 86 rfl w.heap.size 5 i0 (.int .u8 0) 1 1 Try.underlying86 hi hz0 hz1 hz2 rfl (by decide) _ _ _ rfl (hown.alloc _) _ 1 1 [_] rfl rfl (cell_one_new _ _ _) (one_oneCell _ _) (by unfold maxLen; omega) (by omega) (by have := hbel.size; simp; omega) ?_)
      intro v' w2 hown2 hgrow2 _
      rw [byte_last hlt'] at hown2
      have hb2 : Below w.heap.size w w2 := (hbel.alloc hbel.size _).grown hgrow2 (by have := hbel.size; simp; omega) (fun k hk => (hown.lt k hk).1)
      have hown3 : w2.ownsRow w.heap.size 5 1 v' (xs.length + 1) ((xs ++ [UInt8.ofNat m]).map cell8) := by simpa using hown2
      have hcv := string_of_own Try.underlying86 Try.underlying5 Try.underlying9 hown3
      clear hgrow2 hown hbel hown2 hown3
      go_wp2
      go_ret
      exact ⟨str_eq (by rw [Hx.out, encF_lt hlt']), hb2⟩
theorem u64_num {a : Int} (h0 : 0 ≤ a) (h1 : a < 18446744073709551616) : ∃ n : Nat, a = (n : Int) ∧ n < 18446744073709551616 := ⟨a.toNat, by omega, by omega⟩
theorem numI_any (a : Int) (h0 : 0 ≤ a) (h1 : a ≤ 18446744073709551615) (w : World) :
    Calls Try.prog 60 #[.int .u64 a] w fun e w' => e = .returned (.string ⟨(enc a.toNat).toArray⟩) ∧ Below w.heap.size w w' := by
  obtain ⟨n, rfl, h⟩ := u64_num h0 (by omega)
  exact num_any n h w
/-- What Signed writes. -/
def zig (v : Int) : Nat := if 0 ≤ v then (2 * v).toNat else (2 * (-(v + 1)) + 1).toNat

theorem zig_pos {v : Int} (h : 0 ≤ v) : (2 * v).toNat = zig v := by unfold zig; rw [if_pos h]
theorem zig_neg {v : Int} (h : v < 0) : (2 * (-(v + 1)) + 1).toNat = zig v := by unfold zig; rw [if_neg (by omega)]
theorem str_add (l : List UInt8) (s : ByteArray) : (⟨l.toArray⟩ : ByteArray) ++ s = ⟨(l ++ s.data.toList).toArray⟩ := ByteArray.ext (by simp)
theorem ret_str {a b : ByteArray} (h : a = b) : Ending.returned (.string a) = .returned (.string b) := by rw [h]
end Go.Proofs.Ytbomlapmoiamgaa.code
