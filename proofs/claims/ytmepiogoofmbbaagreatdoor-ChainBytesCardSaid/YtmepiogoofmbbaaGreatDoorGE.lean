/-
  Plain mathematics, no program: the bytes of a number, with the number of further bytes as fuel.
  The contracts of code.Num, code.Signed, code.Text and of the ones of watershedref02: the bytes that each returns, at any input.
  The contract of code.decode.
  Plain: what is read of bytes is what they were written of, and the other way round.
  Plain: what each method of a reader gives, of the bytes that are left and of the error: (what is answered, how many bytes are eaten, the error).
  The contracts of code.New and of the methods of code.Reader, at any reader.
  The contracts of code.Reader.Int, End and Text, at any reader.
  The contract of the document's own Reader.Num, at any reader.
  The contracts of the other methods of the document's own reader, but Text.
  The contracts of stamp.Write and watershedref04.Write.
  The contracts of stamp.Read and watershedref04.Read, at any reader.
-/
import Derived.Test.YtmepiogoofmbbaaGreatDoorRows
import Derived.WalkKit
import Derived.ProofKit
import Derived.OpenShut
import Derived.Lib.Hide
import Derived.Deep.QuietTactic
import Derived.BigQuiet
import Derived.Laws.BitsAllLaws
import Derived.WalkSpells
import Derived.Laws.IdiomStrings
import Derived.Test.YtmepiogoofmbbaaGreatDoorGA
import Derived.Test.YtmepiogoofmbbaaGreatDoorGB
namespace Go.Proofs.YtmepiogoofmbbaaGreatDoor.enc

def encF : Nat → Nat → List UInt8
  | 0, n => [UInt8.ofNat n]
  | k + 1, n => if n < 128 then [UInt8.ofNat n] else UInt8.ofNat (n % 128 + 128) :: encF k (n / 128)
def enc (n : Nat) : List UInt8 := encF 9 n

theorem encF_lt {k n : Nat} (h : n < 128) : encF k n = [UInt8.ofNat n] := by
  cases k <;> simp [encF, h]
theorem encF_ge {k n : Nat} (h : ¬ n < 128) : encF (k + 1) n = UInt8.ofNat (n % 128 + 128) :: encF k (n / 128) := by
  simp [encF, h]
theorem div_small {k n : Nat} (h : n < 128 ^ (k + 2)) : n / 128 < 128 ^ (k + 1) := by
  rw [Nat.div_lt_iff_lt_mul (by omega)]
  rw [Nat.pow_succ] at h
  exact h
theorem len_encF : ∀ (k n : Nat), (encF k n).length ≤ k + 1
  | 0, n => by simp [encF]
  | k + 1, n => by
    by_cases h : n < 128
    · simp [encF, h]
    · have := len_encF k (n / 128)
      simp [encF, h]; omega
theorem len_enc (n : Nat) : (enc n).length ≤ 10 := len_encF 9 n
theorem pos_encF (k n : Nat) : 1 ≤ (encF k n).length := by
  cases k <;> simp [encF] ; split <;> simp

/-- One round of the loop: what is out, and what is still to come. -/
theorem round_enc {v n k : Nat} {xs : List UInt8} (hx : enc v = xs ++ encF k n) (hl : xs.length + k = 9) (hn : n < 128 ^ (k + 1)) (h : 128 ≤ n) :
    ∃ k', enc v = (xs ++ [UInt8.ofNat (n % 128 + 128)]) ++ encF k' (n / 128) ∧ (xs ++ [UInt8.ofNat (n % 128 + 128)]).length + k' = 9 ∧ n / 128 < 128 ^ (k' + 1) := by
  cases k with
  | zero => exact absurd hn (by simp; omega)
  | succ k =>
    refine ⟨k, ?_, ?_, div_small hn⟩
    · rw [hx, encF_ge (by omega)]; simp
    · simp; omega
theorem start_enc {v : Nat} (h : v < 18446744073709551616) : v < 128 ^ (9 + 1) := by
  have : (18446744073709551616 : Nat) ≤ 128 ^ 10 := by decide +kernel
  omega
theorem len_mono : ∀ (k j n m : Nat), k ≤ j → n ≤ m → (encF k n).length ≤ (encF j m).length
  | 0, j, n, m, _, _ => by
    have := pos_encF j m
    simpa [encF] using this
  | k + 1, 0, _, _, h, _ => absurd h (by omega)
  | k + 1, j + 1, n, m, hk, hn => by
    by_cases h : n < 128
    · have := pos_encF (j + 1) m
      rw [encF_lt h]
      simpa using this
    · have := len_mono k j (n / 128) (m / 128) (by omega) (Nat.div_le_div_right hn)
      rw [encF_ge h, encF_ge (by omega)]
      simpa using this
theorem len_enc_mono {n m : Nat} (h : n ≤ m) : (enc n).length ≤ (enc m).length := len_mono 9 9 n m (Nat.le_refl _) h
theorem pos_enc (n : Nat) : 1 ≤ (enc n).length := pos_encF 9 n
theorem len_enc_next {n m : Nat} (h : m / 128 ≤ n) : (enc m).length ≤ (enc n).length + 1 := by
  by_cases hm : m < 128
  · have := pos_enc n
    unfold enc
    rw [encF_lt hm]
    simp
  · unfold enc
    rw [encF_ge hm]
    have := len_mono 8 9 (m / 128) n (by omega) h
    simpa using this
end Go.Proofs.YtmepiogoofmbbaaGreatDoor.enc
namespace Go.Proofs.YtmepiogoofmbbaaGreatDoor.code
open Go.ChangeShapes Go.WideShapes Go.ChangeAt Go.RowKit
open Go.Proofs.YtmepiogoofmbbaaGreatDoor.enc
theorem info5 : (Tryz.prog.info? 5).map (fun i => (i.zero, i.size, i.bytes)) = some (some (.int .u8 0), 1, 1) := by kernel_rfl
def cell8 (b : UInt8) : Value := .int .u8 (b.toNat : Int)
theorem one_oneCell (k : IntKind) (x : Int) : ∀ u ∈ [Value.int k x], u.oneCell' = true := by
  intro u hu; simp at hu; subst hu; rfl
/-- 'string(b)' of a row of the call's own. -/
theorem string_of_own {P : Program} {w : World} {src dst e : TypeId} {base : Nat} {v : Value} {n : Nat} {l : List UInt8} (hs : P.underlying src = some (.slice e)) (he : P.underlying e = some (.int .u8)) (hd : P.underlying dst = some .string)
    (h : w.ownsRow base e 1 v n (l.map cell8)) : (convert src dst v).run P w = .ok (.string ⟨l.toArray⟩) w := by
  have hn : l.length = n := by have := h.1; simpa using this
  subst hn
  rcases h.2 with ⟨rfl, h0⟩ | ⟨g, cap, cur, rfl, _⟩
  · obtain rfl : l = [] := List.eq_nil_of_length_eq_zero h0
    rw [run_convert_bytes_string w src dst e none 0 0 hs he hd]
    rfl
  · refine run_convert_bytes_back w src dst e _ cap l hs he hd fun j hj => ?_
    exact h.cells rfl j _ (by simp [hj, cell8])
theorem byte_more (m : Nat) : Value.int IntKind.u8 (bits BinOp.or IntKind.u8 ((m : Int) % 128) 128) = cell8 (UInt8.ofNat (m % 128 + 128)) := by
  have h : ((m : Int) % 128) = ((m % 128 : Nat) : Int) := by omega
  rw [h, show (128 : Int) = ((128 : Nat) : Int) from rfl, u8_or_nat _ 128 (by omega) (by omega)]
  have h2 : m % 128 ||| 128 = m % 128 + 128 := by rw [Nat.or_comm, nat_join 7 128 (m % 128) (by decide) (by omega)]; omega
  rw [h2]
  simp [cell8]
  omega

theorem byte_sum (m : Nat) : Value.int IntKind.u8 ((m : Int) % 128 + 128) = cell8 (UInt8.ofNat (m % 128 + 128)) := by
  simp [cell8]
  omega
theorem byte_last {m : Nat} (h : m < 128) : Value.int IntKind.u8 (m : Int) = cell8 (UInt8.ofNat m) := by
  simp [cell8]
  omega
theorem str_eq {a b : List UInt8} (h : a = b) : Ending.returned (.string ⟨a.toArray⟩) = .returned (.string ⟨b.toArray⟩) := by rw [h]

set_option maxRecDepth 100000 in
set_option maxHeartbeats 400000 in
theorem num_any (v : Nat) (hv : v < 18446744073709551616) (w : World) :
    Calls Tryz.prog 23 #[.int .u64 v] w fun e w' => e = .returned (.string ⟨(enc v).toArray⟩) ∧ Below w.heap.size w w' := by
  obtain ⟨i0, hi, hz0, hz1, hz2⟩ := info_parts info5
  have hv' := hv
  clear hv
  go_enter Tryz.func23, Tryz.ntmps23
  go_wp2_with (at_make; refine wpList_make_own _ rfl _ _ 62 rfl w.heap.size 5 i0 (.int .u8 0) 1 Tryz.underlying62 hi hz0 hz1 _ _ _ 10 rfl rfl (by omega) (by rw [hz2]; omega) (by unfold maxLen; omega) (Nat.le_refl _) ?_; intro w1 hown1 hgrow1)
  have hb1 : Below w.heap.size w w1 := (Below.refl _ _).grown hgrow1 (Nat.le_refl _) (by simp)
  clear hgrow1
  go_loopw [0, 3] (fun n s wr => ∃ (k m : Nat) (xs : List UInt8), n = .int .u64 m ∧ m < 128 ^ (k + 1) ∧ m < 18446744073709551616 ∧ xs.length + k = 9 ∧ enc v = xs ++ encF k m ∧ wr.ownsRow w.heap.size 5 1 s xs.length (xs.map cell8) ∧ Below w.heap.size w wr)
     (fun n _ _ => (intOf n).toNat)
  case atStart => exact ⟨9, v, [], rfl, start_enc hv', hv', rfl, rfl, hown1, hb1⟩
  case round =>
    obtain ⟨k, m, xs, rfl, hm, hm', hlen, hx, hown, hbel⟩ := hrel
    have Hx := Lib.hid hx
    have Hlen := Lib.hid hlen
    have Hm' := Lib.hid hm'
    have Hm := Lib.hid hm
    clear hx hlen hm hown1 hv' hm'
    have hl9 : xs.length ≤ 9 := by have := Hlen.out; omega
    by_cases hlt : 128 ≤ m
    · go_wp2_with (at_builtin; refine wpList_append_own _ rfl _ _ 62 rfl w.heap.size 5 i0 (.int .u8 0) 1 1 Tryz.underlying62 hi hz0 hz1 hz2 rfl (by decide) _ _ _ rfl (hown.alloc _) _ 1 1 [_] rfl rfl (cell_one_new _ _ _) (one_oneCell _ _) (by unfold maxLen; omega) (by omega) (by have := hbel.size; simp; omega) ?_)
      intro v' w2 hown2 hgrow2 _
      rw [byte_more] at hown2
      have hb2 : Below w.heap.size w w2 := (hbel.alloc hbel.size _).grown hgrow2 (by have := hbel.size; simp; omega) (fun k hk => (hown.lt k hk).1)
      clear hgrow2 hown hbel
      go_wp2
      obtain ⟨k', h1, h2, h3⟩ := round_enc Hx.out Hlen.out Hm.out hlt
      have hown3 : w2.ownsRow w.heap.size 5 1 v' (xs ++ [UInt8.ofNat (m % 128 + 128)]).length ((xs ++ [UInt8.ofNat (m % 128 + 128)]).map cell8) := by simpa using hown2
      go_roundw
      case rel => exact ⟨k', m / 128, _, by go_num, h3, by have := Hm'.out; omega, h2, h1, hown3, hb2⟩
      case measure => simp [intOf]; omega
    · have hlt' : m < 128 := by omega
      go_wp2_with (at_builtin; refine wpList_append_own _ rfl _ _ 62 rfl w.heap.size 5 i0 (.int .u8 0) 1 1 Tryz.underlying62 hi hz0 hz1 hz2 rfl (by decide) _ _ _ rfl (hown.alloc _) _ 1 1 [_] rfl rfl (cell_one_new _ _ _) (one_oneCell _ _) (by unfold maxLen; omega) (by omega) (by have := hbel.size; simp; omega) ?_)
      intro v' w2 hown2 hgrow2 _
      rw [byte_last hlt'] at hown2
      have hb2 : Below w.heap.size w w2 := (hbel.alloc hbel.size _).grown hgrow2 (by have := hbel.size; simp; omega) (fun k hk => (hown.lt k hk).1)
      have hown3 : w2.ownsRow w.heap.size 5 1 v' (xs.length + 1) ((xs ++ [UInt8.ofNat m]).map cell8) := by simpa using hown2
      have hcv := string_of_own Tryz.underlying62 Tryz.underlying5 Tryz.underlying9 hown3
      clear hgrow2 hown hbel hown2 hown3
      go_wp2
      go_ret
      exact ⟨str_eq (by rw [Hx.out, encF_lt hlt']), hb2⟩
set_option maxRecDepth 100000 in
set_option maxHeartbeats 400000 in
theorem numR_any (v : Nat) (hv : v < 18446744073709551616) (w : World) :
    Calls Tryz.prog 24 #[.int .u64 v] w fun e w' => e = .returned (.string ⟨(enc v).toArray⟩) ∧ Below w.heap.size w w' := by
  obtain ⟨i0, hi, hz0, hz1, hz2⟩ := info_parts info5
  have hv' := hv
  clear hv
  go_enter Tryz.func24, Tryz.ntmps24
  go_wp2
  go_loopw [0, 3] (fun n s wr => ∃ (k m : Nat) (xs : List UInt8), n = .int .u64 m ∧ m < 128 ^ (k + 1) ∧ m < 18446744073709551616 ∧ xs.length + k = 9 ∧ enc v = xs ++ encF k m ∧ wr.ownsRow w.heap.size 5 1 s xs.length (xs.map cell8) ∧ Below w.heap.size w wr)
     (fun n _ _ => (intOf n).toNat)
  case atStart => exact ⟨9, v, [], rfl, start_enc hv', hv', rfl, rfl, World.ownsRow_nil _ _ _ _, Below.refl _ _⟩
  case round =>
    obtain ⟨k, m, xs, rfl, hm, hm', hlen, hx, hown, hbel⟩ := hrel
    have Hx := Lib.hid hx
    have Hlen := Lib.hid hlen
    have Hm := Lib.hid hm
    clear hx hlen hm hv'
    have hl9 : xs.length ≤ 9 := by have := Hlen.out; omega
    by_cases hlt : 128 ≤ m
    · go_wp2_with (at_builtin; refine wpList_append_own _ rfl _ _ 62 rfl w.heap.size 5 i0 (.int .u8 0) 1 1 Tryz.underlying62 hi hz0 hz1 hz2 rfl (by decide) _ _ _ rfl (hown.alloc _) _ 1 1 [_] rfl rfl (cell_one_new _ _ _) (one_oneCell _ _) (by unfold maxLen; omega) (by omega) (by have := hbel.size; simp; omega) ?_)
      intro v' w2 hown2 hgrow2 _
      rw [byte_sum] at hown2
      have hb2 : Below w.heap.size w w2 := (hbel.alloc hbel.size _).grown hgrow2 (by have := hbel.size; simp; omega) (fun k hk => (hown.lt k hk).1)
      clear hgrow2 hown hbel
      go_wp2
      obtain ⟨k', h1, h2, h3⟩ := round_enc Hx.out Hlen.out Hm.out hlt
      have hown3 : w2.ownsRow w.heap.size 5 1 v' (xs ++ [UInt8.ofNat (m % 128 + 128)]).length ((xs ++ [UInt8.ofNat (m % 128 + 128)]).map cell8) := by simpa using hown2
      go_roundw
      case rel => exact ⟨k', m / 128, _, by go_num, h3, by omega, h2, h1, hown3, hb2⟩
      case measure => simp [intOf]; omega
    · have hlt' : m < 128 := by omega
      go_wp2_with (at_builtin; refine wpList_append_own _ rfl _ _ 62 rfl w.heap.size 5 i0 (.int .u8 0) 1 1 Tryz.underlying62 hi hz0 hz1 hz2 rfl (by decide) _ _ _ rfl (hown.alloc _) _ 1 1 [_] rfl rfl (cell_one_new _ _ _) (one_oneCell _ _) (by unfold maxLen; omega) (by omega) (by have := hbel.size; simp; omega) ?_)
      intro v' w2 hown2 hgrow2 _
      rw [byte_last hlt'] at hown2
      have hb2 : Below w.heap.size w w2 := (hbel.alloc hbel.size _).grown hgrow2 (by have := hbel.size; simp; omega) (fun k hk => (hown.lt k hk).1)
      have hown3 : w2.ownsRow w.heap.size 5 1 v' (xs.length + 1) ((xs ++ [UInt8.ofNat m]).map cell8) := by simpa using hown2
      have hcv := string_of_own Tryz.underlying62 Tryz.underlying5 Tryz.underlying9 hown3
      clear hgrow2 hown hbel hown2 hown3
      go_wp2
      go_ret
      exact ⟨str_eq (by rw [Hx.out, encF_lt hlt']), hb2⟩

theorem u64_num {a : Int} (h0 : 0 ≤ a) (h1 : a < 18446744073709551616) : ∃ n : Nat, a = (n : Int) ∧ n < 18446744073709551616 := ⟨a.toNat, by omega, by omega⟩
theorem numI_any (a : Int) (h0 : 0 ≤ a) (h1 : a ≤ 18446744073709551615) (w : World) :
    Calls Tryz.prog 23 #[.int .u64 a] w fun e w' => e = .returned (.string ⟨(enc a.toNat).toArray⟩) ∧ Below w.heap.size w w' := by
  obtain ⟨n, rfl, h⟩ := u64_num h0 (by omega)
  exact num_any n h w
theorem numRI_any (a : Int) (h0 : 0 ≤ a) (h1 : a ≤ 18446744073709551615) (w : World) :
    Calls Tryz.prog 24 #[.int .u64 a] w fun e w' => e = .returned (.string ⟨(enc a.toNat).toArray⟩) ∧ Below w.heap.size w w' := by
  obtain ⟨n, rfl, h⟩ := u64_num h0 (by omega)
  exact numR_any n h w
/-- What Signed writes. -/
def zig (v : Int) : Nat := if 0 ≤ v then (2 * v).toNat else (2 * (-(v + 1)) + 1).toNat

theorem zig_pos {v : Int} (h : 0 ≤ v) : (2 * v).toNat = zig v := by unfold zig; rw [if_pos h]
theorem zig_neg {v : Int} (h : v < 0) : (2 * (-(v + 1)) + 1).toNat = zig v := by unfold zig; rw [if_neg (by omega)]
theorem str_add (l : List UInt8) (s : ByteArray) : (⟨l.toArray⟩ : ByteArray) ++ s = ⟨(l ++ s.data.toList).toArray⟩ := ByteArray.ext (by simp)
theorem ret_str {a b : ByteArray} (h : a = b) : Ending.returned (.string a) = .returned (.string b) := by rw [h]
end Go.Proofs.YtmepiogoofmbbaaGreatDoor.code
namespace Go.Proofs.YtmepiogoofmbbaaGreatDoor.code
open Go.ChangeShapes Go.WideShapes Go.ChangeAt Go.RowKit
open Go.Proofs.YtmepiogoofmbbaaGreatDoor.enc

/-- One byte more of a number, in the walk's own spelling. -/
def stp (acc : Int) (b : UInt8) (i : Nat) : Int := bits BinOp.or IntKind.u64 acc (IntKind.u64.wrap ((b.toNat : Int) % 128 * 2 ^ (7 * i)))
/-- The number at the front of bytes: its value, how many bytes it has, what is wrong. -/
def decL : List UInt8 → Nat → Int → Int × Nat × Int
  | [], _, _ => (0, 0, 11)
  | b :: t, i, acc => if 9 ≤ i ∧ 1 < b.toNat then (0, 0, 6) else if 0 < i ∧ b.toNat < 1 then (0, 0, 6) else if b.toNat < 128 then (stp acc b i, i + 1, 0) else decL t (i + 1) (stp acc b i)
def dec (l : List UInt8) : Int × Nat × Int := decL l 0 0
theorem drop_at {s : ByteArray} {k : Nat} (h : k < s.size) : s.data.toList.drop k = s[k] :: s.data.toList.drop (k + 1) := by
  rw [List.drop_eq_getElem_cons (by simpa using h)]; rfl
theorem drop_end {s : ByteArray} {k : Nat} (h : ¬ k < s.size) : s.data.toList.drop k = [] := List.drop_of_length_le (by simpa using h)
def ret3 (d : Int × Nat × Int) : Ending := .returned (.tuple #[.int .u64 d.1, .int .i64 d.2.1, .int .i64 d.2.2])
theorem ret3_eq {d : Int × Nat × Int} {a c : Int} {b : Nat} {b' : Int} (h : d = (a, b, c)) (hb : b' = b) : Ending.returned (.tuple #[.int .u64 a, .int .i64 b', .int .i64 c]) = ret3 d := by subst h; subst hb; rfl

theorem stp_nine {acc : Int} {b : UInt8} {k : Nat} (hk : (k : Int) = 9) (hb : (b.toNat : Int) ≤ 1) : bits BinOp.or IntKind.u64 acc ((b.toNat : Int) % 128 * 9223372036854775808) = stp acc b k := by
  obtain rfl : k = 9 := by omega
  have e : ((b.toNat : Int) % 128 * 2 ^ (7 * 9)) = (b.toNat : Int) % 128 * 9223372036854775808 := by
    rw [show ((2 : Int) ^ (7 * 9)) = 9223372036854775808 from by decide]
  unfold stp
  rw [e, IntWalk.u64_in _ (by omega)]
theorem ret3_nine {d : Int × Nat × Int} {acc : Int} {b : UInt8} {k : Nat} (h : d = (stp acc b k, k + 1, 0)) (hk : (k : Int) = 9) (hb : (b.toNat : Int) ≤ 1) :
    Ending.returned (.tuple #[.int .u64 (bits BinOp.or IntKind.u64 acc ((b.toNat : Int) % 128 * 9223372036854775808)), .int .i64 10, .int .i64 0]) = ret3 d :=
  (by rw [stp_nine hk hb] : _ = Ending.returned (.tuple #[.int .u64 (stp acc b k), .int .i64 10, .int .i64 0])).trans (ret3_eq h (by omega))

set_option maxRecDepth 100000 in
set_option maxHeartbeats 400000 in
theorem decode_any (s : ByteArray) (hs : s.size ≤ 9223372036854775807) (w : World) :
    Calls Tryz.prog 54 #[.string s] w fun e w' => e = ret3 (dec s.data.toList) ∧ w = w' := by
  go_enter Tryz.func54, Tryz.ntmps54
  go_wp2
  go_loop [5, 10] (fun v i => ∃ (k : Nat) (acc : Int), k ≤ s.size ∧ k ≤ 9 ∧ i = .int .i64 k ∧ v = .int .u64 acc ∧ dec s.data.toList = decL (s.data.toList.drop k) k acc) (fun _ i => s.size - (intOf i).toNat)
  case atStart => exact ⟨0, 0, by omega, by omega, rfl, rfl, rfl⟩
  case round =>
    obtain ⟨k, acc, hk, hk9, rfl, rfl, hd⟩ := hrel
    by_cases hlt : k < s.size
    · rw [drop_at hlt] at hd
      by_cases hA : 9 ≤ k ∧ 1 < s[k].toNat
      · rw [decL, if_pos hA] at hd
        have Hd := Lib.hid hd; clear hd
        obtain ⟨h9, h1⟩ := hA
        go_wp2
        go_ret3
        exact ⟨ret3_eq Hd.out rfl, rfl⟩
      · rw [decL, if_neg hA] at hd
        by_cases hB : 0 < k ∧ s[k].toNat < 1
        · rw [if_pos hB] at hd
          have Hd := Lib.hid hd; clear hd hA
          obtain ⟨h9, h1⟩ := hB
          go_wp2
          all_goals go_ret3
          all_goals exact ⟨ret3_eq Hd.out rfl, rfl⟩
        · rw [if_neg hB] at hd
          by_cases hC : s[k].toNat < 128
          · rw [if_pos hC] at hd
            have Hd := Lib.hid hd; clear hd
            have h1 : k = 9 → s[k].toNat ≤ 1 := by omega
            have h2 : 0 < k → 1 ≤ s[k].toNat := by omega
            clear hA hB
            go_wp2
            all_goals go_ret3
            · exact ⟨ret3_nine Hd.out ‹_› ‹_›, rfl⟩
            · exact ⟨ret3_eq Hd.out (by omega), rfl⟩
            · exact ⟨ret3_eq Hd.out (by omega), rfl⟩
          · rw [if_neg hC] at hd
            have Hd := Lib.hid hd; clear hd
            have h1 : k < 9 := by omega
            clear hA hB
            go_wp2
            all_goals go_round
            all_goals first | exact ⟨k + 1, _, by omega, by omega, by go_num, rfl, Hd.out⟩ | (simp [intOf]; omega)
    · rw [drop_end hlt, decL] at hd
      have Hd := Lib.hid hd; clear hd
      go_wp2
      go_ret3
      exact ⟨ret3_eq Hd.out rfl, rfl⟩
end Go.Proofs.YtmepiogoofmbbaaGreatDoor.code
namespace Go.Proofs.YtmepiogoofmbbaaGreatDoor.code
open Go.Proofs.YtmepiogoofmbbaaGreatDoor.enc

theorem stp_add {acc i : Nat} {b : UInt8} (h : acc < 2 ^ (7 * i)) (h2 : 2 ^ (7 * i) ≤ 2 ^ 63) (hb : b.toNat % 128 * 2 ^ (7 * i) < 18446744073709551616) : stp (acc : Int) b i = ((acc + b.toNat % 128 * 2 ^ (7 * i) : Nat) : Int) := by
  unfold stp
  have e : ((b.toNat : Int) % 128 * 2 ^ (7 * i)) = ((b.toNat % 128 * 2 ^ (7 * i) : Nat) : Int) := by
    rw [Int.natCast_mul, Int.natCast_pow]
    rfl
  have h3 : (2 : Nat) ^ 63 = 9223372036854775808 := by decide
  rw [h3] at h2
  rw [e, IntWalk.u64_in _ (by omega), u64_or_nat _ _ (by omega) hb]
  rw [Nat.or_comm, nat_join (7 * i) _ _ (Nat.mul_mod_left _ _) h]
  congr 1
  omega
theorem pow_le9 {i : Nat} (h : i ≤ 9) : 2 ^ (7 * i) ≤ 2 ^ 63 := Nat.pow_le_pow_right (by omega) (by omega)
theorem digit_small {i x : Nat} (h : i ≤ 8) (hx : x < 128) : x * 2 ^ (7 * i) < 18446744073709551616 := by
  have h1 : 2 ^ (7 * i) ≤ 2 ^ 56 := Nat.pow_le_pow_right (by omega) (by omega)
  have h2 : (2 : Nat) ^ 56 = 72057594037927936 := by decide
  have h3 : x * 2 ^ (7 * i) ≤ 127 * 2 ^ 56 := Nat.mul_le_mul (by omega) h1
  omega
theorem digit_ok {i : Nat} {b : UInt8} (hi : i ≤ 9) (hA : ¬ (9 ≤ i ∧ 1 < b.toNat)) : b.toNat % 128 * 2 ^ (7 * i) < 18446744073709551616 := by
  by_cases h9 : i ≤ 8
  · exact digit_small h9 (Nat.mod_lt _ (by omega))
  · obtain rfl : i = 9 := by omega
    have h3 : (2 : Nat) ^ (7 * 9) = 9223372036854775808 := by decide
    rw [h3]
    omega
theorem next_small {i acc x : Nat} (h : acc < 2 ^ (7 * i)) (hx : x < 128) : acc + x * 2 ^ (7 * i) < 2 ^ (7 * (i + 1)) := by
  have h1 : 2 ^ (7 * (i + 1)) = 128 * 2 ^ (7 * i) := by rw [Nat.mul_succ, Nat.pow_add]; omega
  have h2 : x * 2 ^ (7 * i) ≤ 127 * 2 ^ (7 * i) := Nat.mul_le_mul_right _ (by omega)
  omega

/-- An error comes with nothing. -/
theorem decL_err : ∀ (l : List UInt8) (i : Nat) (acc : Int), (decL l i acc).2.2 ≠ 0 → (decL l i acc).1 = 0 ∧ (decL l i acc).2.1 = 0
  | [], _, _, _ => by simp [decL]
  | b :: t, i, acc, h => by
    rw [decL] at h ⊢
    by_cases h1 : 9 ≤ i ∧ 1 < b.toNat
    · rw [if_pos h1]; simp
    · rw [if_neg h1] at h ⊢
      by_cases h2 : 0 < i ∧ b.toNat < 1
      · rw [if_pos h2]; simp
      · rw [if_neg h2] at h ⊢
        by_cases h3 : b.toNat < 128
        · rw [if_pos h3] at h; simp at h
        · rw [if_neg h3] at h ⊢
          exact decL_err t (i + 1) _ h

theorem byte_of (b : UInt8) {d' : Nat} (h : ¬ b.toNat < 128) : UInt8.ofNat ((b.toNat % 128 + 128 * d') % 128 + 128) = b := by
  have hb := b.toNat_lt
  apply UInt8.toNat_inj.1
  simp
  omega

/-- What is read is what was written. -/
theorem decL_ok : ∀ (l : List UInt8) (i acc : Nat), i ≤ 9 → acc < 2 ^ (7 * i) → (decL l i (acc : Int)).2.2 = 0 →
    ∃ d n : Nat, decL l i (acc : Int) = (((acc + d * 2 ^ (7 * i) : Nat) : Int), n, 0) ∧ encF (9 - i) d = l.take (n - i) ∧ i + 1 ≤ n ∧ n ≤ 10 ∧ n - i ≤ l.length ∧ (0 < i → 1 ≤ d) ∧
      ∀ m, m < n - i → decL (l.take m) i (acc : Int) = (0, 0, 11)
  | [], i, acc, _, _, h => by simp [decL] at h
  | b :: t, i, acc, hi, ha, h => by
    rw [decL] at h
    by_cases h1 : 9 ≤ i ∧ 1 < b.toNat
    · rw [if_pos h1] at h; simp at h
    · rw [if_neg h1] at h
      by_cases h2 : 0 < i ∧ b.toNat < 1
      · rw [if_pos h2] at h; simp at h
      · rw [if_neg h2] at h
        have hs := stp_add ha (pow_le9 hi) (digit_ok hi h1)
        by_cases h3 : b.toNat < 128
        · refine ⟨b.toNat, i + 1, ?_, ?_, by omega, by omega, by simp, by omega, ?_⟩
          · rw [decL, if_neg h1, if_neg h2, if_pos h3, hs]
            rw [Nat.mod_eq_of_lt h3]
          · rw [encF_lt h3]
            simp
          · intro m hm
            obtain rfl : m = 0 := by omega
            rfl
        · rw [if_neg h3, hs] at h
          have h9 : i ≤ 8 := by omega
          obtain ⟨d, n, e1, e2, e3, e4, e5, e6, e7⟩ := decL_ok t (i + 1) _ (by omega) (next_small ha (Nat.mod_lt _ (by omega))) h
          have hd := e6 (by omega)
          have hb := b.toNat_lt
          refine ⟨b.toNat % 128 + 128 * d, n, ?_, ?_, by omega, e4, by simp; omega, by omega, ?_⟩
          · rw [decL, if_neg h1, if_neg h2, if_neg h3, hs, e1]
            have hp : 2 ^ (7 * (i + 1)) = 128 * 2 ^ (7 * i) := by rw [Nat.mul_succ, Nat.pow_add]; omega
            have : acc + b.toNat % 128 * 2 ^ (7 * i) + d * 2 ^ (7 * (i + 1)) = acc + (b.toNat % 128 + 128 * d) * 2 ^ (7 * i) := by
              rw [hp, Nat.add_mul, Nat.add_assoc]
              congr 2
              rw [Nat.mul_left_comm, Nat.mul_assoc]
            rw [this]
          · obtain ⟨k, hk⟩ : ∃ k, 9 - i = k + 1 := ⟨8 - i, by omega⟩
            rw [hk, encF_ge (by omega), byte_of b h3]
            have hq : (b.toNat % 128 + 128 * d) / 128 = d := by omega
            have hk' : k = 9 - (i + 1) := by omega
            rw [hq, hk', e2]
            have hn : n - i = (n - (i + 1)) + 1 := by omega
            rw [hn, List.take_succ_cons]
          · intro m hm
            cases m with
            | zero => rfl
            | succ m =>
              rw [List.take_succ_cons, decL, if_neg h1, if_neg h2, if_neg h3, hs]
              exact e7 m (by omega)

/-- What is written is read, whatever stands behind it. -/
theorem decL_enc : ∀ (k i d acc : Nat) (r : List UInt8), i + k = 9 → acc < 2 ^ (7 * i) → d < 128 ^ (k + 1) → acc + d * 2 ^ (7 * i) < 18446744073709551616 → (0 < i → 1 ≤ d) →
    decL (encF k d ++ r) i (acc : Int) = (((acc + d * 2 ^ (7 * i) : Nat) : Int), i + (encF k d).length, 0)
  | k, i, d, acc, r, hk, ha, hd, hv, hpos => by
    by_cases h : d < 128
    · rw [encF_lt h]
      have hb : (UInt8.ofNat d).toNat = d := by simp; omega
      have h1 : ¬ (9 ≤ i ∧ 1 < (UInt8.ofNat d).toNat) := by
        rw [hb]
        rintro ⟨h9, h1⟩
        obtain rfl : i = 9 := by omega
        have h3 : (2 : Nat) ^ (7 * 9) = 9223372036854775808 := by decide
        rw [h3] at hv
        omega
      have hs := stp_add (b := UInt8.ofNat d) ha (pow_le9 (by omega)) (digit_ok (by omega) h1)
      simp only [List.cons_append, List.nil_append]
      rw [decL, if_neg h1, if_neg (by rw [hb]; omega), if_pos (by rw [hb]; exact h), hs, hb, Nat.mod_eq_of_lt h]
      rfl
    · cases k with
      | zero => simp at hd; omega
      | succ k =>
        rw [encF_ge h]
        have hb : (UInt8.ofNat (d % 128 + 128)).toNat = d % 128 + 128 := by simp; omega
        have h1 : ¬ (9 ≤ i ∧ 1 < (UInt8.ofNat (d % 128 + 128)).toNat) := by omega
        have hs := stp_add (b := UInt8.ofNat (d % 128 + 128)) ha (pow_le9 (by omega)) (digit_ok (by omega) h1)
        rw [hb] at hs
        have hm : (d % 128 + 128) % 128 = d % 128 := by omega
        rw [hm] at hs
        have hp : 2 ^ (7 * (i + 1)) = 128 * 2 ^ (7 * i) := by rw [Nat.mul_succ, Nat.pow_add]; omega
        have hsum : acc + d % 128 * 2 ^ (7 * i) + d / 128 * 2 ^ (7 * (i + 1)) = acc + d * 2 ^ (7 * i) := by
          have e : d = d % 128 + 128 * (d / 128) := by omega
          conv => rhs; rw [e]
          rw [hp, Nat.add_mul, Nat.add_assoc]
          congr 2
          rw [Nat.mul_left_comm, Nat.mul_assoc]
        simp only [List.cons_append]
        rw [decL, if_neg h1, if_neg (by rw [hb]; omega), if_neg (by rw [hb]; omega), hs,
          decL_enc k (i + 1) (d / 128) _ r (by omega) (next_small ha (Nat.mod_lt _ (by omega))) (div_small hd) (by rw [hsum]; exact hv) (by omega), hsum]
        simp only [List.length_cons]
        congr 2
        omega
theorem dec_enc {v : Nat} (h : v < 18446744073709551616) (r : List UInt8) : dec (enc v ++ r) = ((v : Int), (enc v).length, 0) := by
  have := decL_enc 9 0 v 0 r rfl (by decide) (start_enc h) (by simpa using h) (by omega)
  simpa [dec, enc] using this
theorem dec_ok {l : List UInt8} (h : (dec l).2.2 = 0) :
    ∃ v n : Nat, dec l = ((v : Int), n, 0) ∧ enc v = l.take n ∧ 1 ≤ n ∧ n ≤ 10 ∧ n ≤ l.length ∧ ∀ m, m < n → dec (l.take m) = (0, 0, 11) := by
  obtain ⟨d, n, e1, e2, e3, e4, e5, _, e7⟩ := decL_ok l 0 0 (by omega) (by decide) h
  exact ⟨d, n, by simpa [dec] using e1, e2, by omega, e4, by omega, fun m hm => e7 m (by omega)⟩
theorem dec_err {l : List UInt8} (h : (dec l).2.2 ≠ 0) : (dec l).1 = 0 ∧ (dec l).2.1 = 0 := decL_err l 0 0 h
end Go.Proofs.YtmepiogoofmbbaaGreatDoor.code
namespace Go.Proofs.YtmepiogoofmbbaaGreatDoor.code
open Go.Proofs.YtmepiogoofmbbaaGreatDoor.enc

theorem wrap_u64_bd (n : Int) : 0 ≤ IntKind.u64.wrap n ∧ IntKind.u64.wrap n ≤ 18446744073709551615 := by
  have : IntKind.u64.wrap n = n % 18446744073709551616 := by simp [IntKind.wrap, IntKind.bits, IntKind.signed]
  omega
theorem stp_bd (acc : Int) (b : UInt8) (i : Nat) : 0 ≤ stp acc b i ∧ stp acc b i ≤ 18446744073709551615 := by
  unfold stp
  exact wrap_u64_bd _
theorem decL_bd : ∀ (l : List UInt8) (i : Nat) (acc : Int), 0 ≤ (decL l i acc).1 ∧ (decL l i acc).1 ≤ 18446744073709551615 ∧ (decL l i acc).2.1 ≤ i + l.length ∧ ((decL l i acc).2.2 = 0 ∨ (decL l i acc).2.2 = 6 ∨ (decL l i acc).2.2 = 11)
  | [], _, _ => by simp [decL]
  | b :: t, i, acc => by
    rw [decL]
    by_cases h1 : 9 ≤ i ∧ 1 < b.toNat
    · rw [if_pos h1]; simp
    · rw [if_neg h1]
      by_cases h2 : 0 < i ∧ b.toNat < 1
      · rw [if_pos h2]; simp
      · rw [if_neg h2]
        by_cases h3 : b.toNat < 128
        · rw [if_pos h3]
          have := stp_bd acc b i
          simp; omega
        · rw [if_neg h3]
          have := decL_bd t (i + 1) (stp acc b i)
          simp only [List.length_cons]
          omega
theorem dec_bd (l : List UInt8) : 0 ≤ (dec l).1 ∧ (dec l).1 ≤ 18446744073709551615 ∧ (dec l).2.1 ≤ l.length ∧ ((dec l).2.2 = 0 ∨ (dec l).2.2 = 6 ∨ (dec l).2.2 = 11) := by
  have := decL_bd l 0 0
  unfold dec
  omega

def rNum (l : List UInt8) (e : Int) : Int × Nat × Int := if e = 0 then dec l else (0, 0, e)
def rInt (l : List UInt8) (e most : Int) : Int × Nat × Int :=
  if (rNum l e).2.2 = 0 then (if most < 0 ∨ most < (rNum l e).1 then (0, (rNum l e).2.1, 1) else rNum l e) else (0, (rNum l e).2.1, (rNum l e).2.2)
def unzig (v : Int) : Int := if v % 2 = 0 then v / 2 else -(v / 2) - 1
def rTxt (l : List UInt8) (e most : Int) : List UInt8 × Nat × Int :=
  if (rInt l e most).2.2 = 0 then
    (if ((l.length - (rInt l e most).2.1 : Nat) : Int) < (rInt l e most).1 then ([], (rInt l e most).2.1, 11)
     else ((l.drop (rInt l e most).2.1).take (rInt l e most).1.toNat, (rInt l e most).2.1 + (rInt l e most).1.toNat, 0))
  else ([], (rInt l e most).2.1, (rInt l e most).2.2)
def rFail (e x : Int) : Int := if e = 0 then x else e
def rEnd (l : List UInt8) (e : Int) : Int := if l.length = 0 then e else rFail e 7

theorem rNum_bd (l : List UInt8) (e : Int) : 0 ≤ (rNum l e).1 ∧ (rNum l e).1 ≤ 18446744073709551615 ∧ (rNum l e).2.1 ≤ l.length := by
  have := dec_bd l
  unfold rNum
  by_cases h : e = 0
  · rw [if_pos h]; omega
  · rw [if_neg h]; simp
theorem rInt_bd (l : List UInt8) (e most : Int) : 0 ≤ (rInt l e most).1 ∧ ((rInt l e most).1 ≤ most ∨ (rInt l e most).1 = 0) ∧ (rInt l e most).2.1 ≤ l.length := by
  have := rNum_bd l e
  unfold rInt
  split
  · split
    · simp; omega
    · omega
  · simp; omega
theorem rTxt_bd (l : List UInt8) (e most : Int) : (rTxt l e most).2.1 ≤ l.length := by
  have := rInt_bd l e most
  unfold rTxt
  split
  · split
    · simp; omega
    · simp; omega
  · simp; omega
end Go.Proofs.YtmepiogoofmbbaaGreatDoor.code
namespace Go.Proofs.YtmepiogoofmbbaaGreatDoor.code
open Go.ChangeShapes Go.WideShapes Go.ChangeAt Go.RowKit
open Go.Proofs.YtmepiogoofmbbaaGreatDoor.enc Go.Proofs.YtmepiogoofmbbaaGreatDoor.block

/-- A reader of the program: what is left, and what is wrong. -/
def RdA (w : World) (g : Nat) (l : List UInt8) (e : Int) : Prop := Whole w g 52 #[.string ⟨l.toArray⟩, .int .i64 e]
section
variable {w : World} {g : Nat} {l l' : List UInt8} {e e' : Int} {n : Nat}
theorem RdA.facts (h : RdA w g l e) :
    w.cell? ⟨g, 0, none⟩ = some (.string ⟨l.toArray⟩) ∧ w.cell? ⟨g, 1, none⟩ = some (.int .i64 e) ∧ w.frozen? ⟨g, 0, none⟩ = false ∧ w.frozen? ⟨g, 1, none⟩ = false :=
  ⟨h.read 0, h.read 1, h.soft 0, h.soft 1⟩
theorem rest_drop : (⟨l.toArray⟩ : ByteArray).extract n l.length = ⟨(l.drop n).toArray⟩ := by
  apply ByteArray.ext
  simp
  rw [List.take_of_length_le (by simp)]
theorem RdA.err (h : RdA w g l e) (e' : Int) : RdA (w.setCell ⟨g, 1, none⟩ (.int .i64 e')) g l e' := h.store 1 _
theorem RdA.rest (h : RdA w g l e) (n : Nat) : RdA (w.setCell ⟨g, 0, none⟩ (.string ((⟨l.toArray⟩ : ByteArray).extract n l.length))) g (l.drop n) e := by
  rw [rest_drop]; exact h.store 0 _
end
theorem decode_l (l : List UInt8) (hl : l.length ≤ 9223372036854775807) (w : World) :
    Calls Tryz.prog 54 #[.string ⟨l.toArray⟩] w fun e w' => e = .returned (.tuple #[.int .u64 (dec l).1, .int .i64 (dec l).2.1, .int .i64 (dec l).2.2]) ∧ w = w' := decode_any ⟨l.toArray⟩ hl w

theorem new_any (s : ByteArray) (w : World) : Calls Tryz.prog 10 #[.string s] w fun e w' => e = .returned (.pointer (some ⟨w.heap.size, 0, none⟩)) ∧ w.alloc (.cells #[.string s, .int .i64 0] 52) = w' := by
  go_enter Tryz.func10, Tryz.ntmps10
  go_wp2
  go_ret
  exact ⟨rfl, rfl⟩
theorem new_l (l : List UInt8) (w : World) : Calls Tryz.prog 10 #[.string ⟨l.toArray⟩] w fun e w' => e = .returned (.pointer (some ⟨w.heap.size, 0, none⟩)) ∧ RdA w' w.heap.size l 0 ∧ w.grownBy w' none :=
  (new_any _ w).mono fun _ _ ⟨he, hw⟩ => ⟨he, by subst hw; exact ⟨Whole.fresh w 52 _, only_alloc (World.grownBy.refl w _) _⟩⟩

theorem numA (g : Nat) (l : List UInt8) (e : Int) (hl : l.length ≤ 9223372036854775807) (w : World) (h : RdA w g l e) :
    Calls Tryz.prog 43 #[.pointer (some ⟨g, 0, none⟩)] w fun r w' => r = .returned (.int .u64 (rNum l e).1) ∧ RdA w' g (l.drop (rNum l e).2.1) (rNum l e).2.2 ∧ w.grownBy w' (some g) := by
  obtain ⟨c0, c1, f0, f1⟩ := h.facts
  have H := Lib.hid h; clear h
  by_cases he : e = 0
  · subst he
    have hr : rNum l 0 = dec l := by simp [rNum]
    rw [hr]; clear hr
    obtain ⟨b0, b1, b2, b3⟩ := dec_bd l
    clear b3
    go_enter Tryz.func43, Tryz.ntmps43
    go_wp2_with fail
    refine (decode_l l hl _).mono ?_
    rintro e w' ⟨rfl, rfl⟩
    go_wp2
    go_ret
    exact ⟨rfl, (H.out.rest _).err _, only_store (only_store (World.grownBy.refl w _) _) _⟩
  · have hr : rNum l e = (0, 0, e) := by simp [rNum, he]
    rw [hr]; clear hr
    have he' : (e != 0) = true := by simpa using he
    clear he
    go_enter Tryz.func43, Tryz.ntmps43
    go_wp2
    go_ret
    exact ⟨rfl, H.out, World.grownBy.refl w _⟩

theorem failA (g : Nat) (l : List UInt8) (e x : Int) (w : World) (h : RdA w g l e) :
    Calls Tryz.prog 29 #[.pointer (some ⟨g, 0, none⟩), .int .i64 x] w fun r w' => r = .returned (.tuple #[]) ∧ RdA w' g l (rFail e x) ∧ w.grownBy w' (some g) := by
  obtain ⟨c0, c1, f0, f1⟩ := h.facts
  have H := Lib.hid h; clear h
  by_cases he : e = 0
  · subst he
    have hr : rFail 0 x = x := by simp [rFail]
    rw [hr]; clear hr
    go_enter Tryz.func29, Tryz.ntmps29
    go_wp2
    go_end0
    exact ⟨rfl, H.out.err _, only_store (World.grownBy.refl w _) _⟩
  · have hr : rFail e x = e := by simp [rFail, he]
    rw [hr]; clear hr
    have he' : (e == 0) = false := by simpa using he
    clear he
    go_enter Tryz.func29, Tryz.ntmps29
    go_wp2
    go_end0
    exact ⟨rfl, H.out, World.grownBy.refl w _⟩

theorem leftA (g : Nat) (l : List UInt8) (e : Int) (w : World) (h : RdA w g l e) :
    Calls Tryz.prog 15 #[.pointer (some ⟨g, 0, none⟩)] w fun r w' => r = .returned (.int .i64 l.length) ∧ w = w' := by
  obtain ⟨c0, c1, f0, f1⟩ := h.facts
  clear h
  go_enter Tryz.func15, Tryz.ntmps15
  go_wp2
  go_ret
  exact ⟨rfl, rfl⟩
theorem errA (g : Nat) (l : List UInt8) (e : Int) (w : World) (h : RdA w g l e) :
    Calls Tryz.prog 14 #[.pointer (some ⟨g, 0, none⟩)] w fun r w' => r = .returned (.int .i64 e) ∧ w = w' := by
  obtain ⟨c0, c1, f0, f1⟩ := h.facts
  clear h
  go_enter Tryz.func14, Tryz.ntmps14
  go_wp2
  go_ret
  exact ⟨rfl, rfl⟩
end Go.Proofs.YtmepiogoofmbbaaGreatDoor.code
namespace Go.Proofs.YtmepiogoofmbbaaGreatDoor.code
open Go.ChangeShapes Go.WideShapes Go.ChangeAt Go.RowKit
open Go.Proofs.YtmepiogoofmbbaaGreatDoor.enc Go.Proofs.YtmepiogoofmbbaaGreatDoor.block

theorem intA (g : Nat) (l : List UInt8) (e m : Int) (hl : l.length ≤ 9223372036854775807) (hm0 : -9223372036854775808 ≤ m) (hm1 : m ≤ 9223372036854775807) (w : World) (h : RdA w g l e) :
    Calls Tryz.prog 26 #[.pointer (some ⟨g, 0, none⟩), .int .i64 m] w fun r w' => r = .returned (.int .i64 (rInt l e m).1) ∧ RdA w' g (l.drop (rInt l e m).2.1) (rInt l e m).2.2 ∧ w.grownBy w' (some g) := by
  obtain ⟨b0, b1, b2⟩ := rNum_bd l e
  have hN := numA g l e hl w h
  by_cases he : (rNum l e).2.2 = 0
  · by_cases hc : m < 0 ∨ m < (rNum l e).1
    · have hr : rInt l e m = (0, (rNum l e).2.1, 1) := by simp [rInt, he, hc]
      rw [hr]; clear hr
      rw [he] at hN
      generalize rNum l e = r at hN b0 b1 b2 hc
      have HN := Lib.hid hN; clear hN he
      by_cases hc0 : m < 0
      · clear hc
        go_enter Tryz.func26, Tryz.ntmps26
        go_wp2_with fail
        refine HN.out.mono ?_
        rintro e w' ⟨rfl, h1, g1⟩
        obtain ⟨c0, c1, f0, f1⟩ := h1.facts
        go_wp2
        go_ret
        exact ⟨rfl, h1.err _, only_store g1 _⟩
      · have hc1 : m < r.1 := by omega
        clear hc
        go_enter Tryz.func26, Tryz.ntmps26
        go_wp2_with fail
        refine HN.out.mono ?_
        rintro e w' ⟨rfl, h1, g1⟩
        obtain ⟨c0, c1, f0, f1⟩ := h1.facts
        go_wp2
        go_ret
        exact ⟨rfl, h1.err _, only_store g1 _⟩
    · have hr : rInt l e m = rNum l e := by simp only [rInt, he, if_true, if_neg hc]
      rw [hr]; clear hr
      rw [he] at hN
      rw [he]
      generalize rNum l e = r at hN b0 b1 b2 hc
      have HN := Lib.hid hN; clear hN he
      have hc0 : 0 ≤ m := by omega
      have hc1 : r.1 ≤ m := by omega
      clear hc
      go_enter Tryz.func26, Tryz.ntmps26
      go_wp2_with fail
      refine HN.out.mono ?_
      rintro e w' ⟨rfl, h1, g1⟩
      obtain ⟨c0, c1, f0, f1⟩ := h1.facts
      go_wp2
      go_ret
      exact ⟨rfl, h1, g1⟩
  · have hr : rInt l e m = (0, (rNum l e).2.1, (rNum l e).2.2) := by simp only [rInt, if_neg he]
    rw [hr]; clear hr
    have he' : ((rNum l e).2.2 != 0) = true := by simpa using he
    generalize rNum l e = r at hN b0 b1 b2 he'
    have HN := Lib.hid hN; clear hN he
    go_enter Tryz.func26, Tryz.ntmps26
    go_wp2_with fail
    refine HN.out.mono ?_
    rintro e w' ⟨rfl, h1, g1⟩
    obtain ⟨c0, c1, f0, f1⟩ := h1.facts
    go_wp2
    go_ret
    exact ⟨rfl, h1, g1⟩

theorem rest_take {l : List UInt8} {n : Nat} : (⟨l.toArray⟩ : ByteArray).extract 0 n = ⟨(l.take n).toArray⟩ := by
  apply ByteArray.ext
  simp
end Go.Proofs.YtmepiogoofmbbaaGreatDoor.code
namespace Go.Proofs.YtmepiogoofmbbaaGreatDoor.code
open Go.ChangeShapes Go.WideShapes Go.ChangeAt Go.RowKit
open Go.Proofs.YtmepiogoofmbbaaGreatDoor.enc Go.Proofs.YtmepiogoofmbbaaGreatDoor.block

/-- A reader of the document's: the bytes, how many were read, what is wrong. -/
def RdB (w : World) (g : Nat) (s : ByteArray) (n : Nat) (e : Int) : Prop := Whole w g 32 #[.string s, .int .i64 n, .int .i64 e]
section
variable {w : World} {g : Nat} {s : ByteArray} {n : Nat} {e e' : Int}
theorem RdB.facts (h : RdB w g s n e) :
    w.cell? ⟨g, 0, none⟩ = some (.string s) ∧ w.cell? ⟨g, 1, none⟩ = some (.int .i64 n) ∧ w.cell? ⟨g, 2, none⟩ = some (.int .i64 e) ∧ w.frozen? ⟨g, 0, none⟩ = false ∧ w.frozen? ⟨g, 1, none⟩ = false ∧ w.frozen? ⟨g, 2, none⟩ = false :=
  ⟨h.read 0, h.read 1, h.read 2, h.soft 0, h.soft 1, h.soft 2⟩
theorem RdB.err (h : RdB w g s n e) (e' : Int) : RdB (w.setCell ⟨g, 2, none⟩ (.int .i64 e')) g s n e' := h.store 2 _
theorem RdB.eat (h : RdB w g s n e) {x : Int} {n' : Nat} (hx : x = n') : RdB (w.setCell ⟨g, 1, none⟩ (.int .i64 x)) g s n' e := by subst hx; exact h.store 1 _
end
theorem ret_u64 {a b : Int} (h : a = b) : Ending.returned (.int .u64 a) = .returned (.int .u64 b) := by rw [h]
theorem ret_i64 {a b : Int} (h : a = b) : Ending.returned (.int .i64 a) = .returned (.int .i64 b) := by rw [h]

theorem rNum_zero (l : List UInt8) : rNum l 0 = dec l := by simp [rNum]

set_option maxRecDepth 100000 in
set_option maxHeartbeats 1000000 in
theorem numB_go (g : Nat) (s : ByteArray) (n : Nat) (hs : s.size ≤ 140737488351232) (hn : n ≤ s.size) (w : World) (h : RdB w g s n 0) :
    Calls Tryz.prog 46 #[.pointer (some ⟨g, 0, none⟩)] w fun r w' => r = .returned (.int .u64 (dec (s.data.toList.drop n)).1) ∧ RdB w' g s (n + (dec (s.data.toList.drop n)).2.1) (dec (s.data.toList.drop n)).2.2 ∧ w.grownBy w' (some g) := by
    obtain ⟨c0, c1, c2, f0, f1, f2⟩ := h.facts
    go_enter Tryz.func46, Tryz.ntmps46
    go_wp2
    go_loopw [3, 4] (fun v i wr => ∃ (k : Nat) (acc : Int), n + k ≤ s.size ∧ k ≤ 9 ∧ i = .int .i64 k ∧ v = .int .u64 acc ∧ dec (s.data.toList.drop n) = decL (s.data.toList.drop (n + k)) k acc ∧ RdB wr g s n 0 ∧ w.grownBy wr (some g)) (fun _ i _ => 10 - (intOf i).toNat)
    case atStart => exact ⟨0, 0, hn, by omega, rfl, rfl, rfl, h, World.grownBy.refl w _⟩
    case round =>
      clear c0 c1 c2 f0 f1 f2 h
      obtain ⟨k, acc, hk, hk9, rfl, rfl, hd, h1, g1⟩ := hrel
      obtain ⟨c0, c1, c2, f0, f1, f2⟩ := h1.facts
      have H1 := Lib.hid h1; clear h1
      have G1 := Lib.hid g1; clear g1
      by_cases hlt : n + k < s.size
      · rw [drop_at hlt] at hd
        by_cases hA : 9 ≤ k ∧ 1 < s[n + k].toNat
        · rw [decL, if_pos hA] at hd
          have Hd := Lib.hid hd; clear hd
          obtain ⟨h9, h1⟩ := hA
          go_wp2
          go_quiet (fail)
          go_wp2
          have q1 : IntKind.i64.wrap ((n : Int) + (k : Int)) = (n : Int) + (k : Int) := IntWalk.i64_in _ (by omega)
          have q2 : ((n : Int) + (k : Int)).toNat = n + k := by omega
          have q3 : (0 : Int) ≤ (n : Int) + (k : Int) := by omega
          go_quiet (fail)
          clear q1
          go_wp2
          go_ret
          rw [Hd.out]
          exact ⟨rfl, H1.out.err _, only_drewN (only_store G1.out _) _⟩
        · rw [decL, if_neg hA] at hd
          by_cases hB : 0 < k ∧ s[n + k].toNat < 1
          · rw [if_pos hB] at hd
            have Hd := Lib.hid hd; clear hd hA
            obtain ⟨h9, h1⟩ := hB
            have hz : ((s[n + k].toNat : Int) == 0) = true := by simp; omega
            go_wp2
            go_quiet (fail)
            go_wp2
            have q1 : IntKind.i64.wrap ((n : Int) + (k : Int)) = (n : Int) + (k : Int) := IntWalk.i64_in _ (by omega)
            have q2 : ((n : Int) + (k : Int)).toNat = n + k := by omega
            have q3 : (0 : Int) ≤ (n : Int) + (k : Int) := by omega
            go_quiet (fail)
            clear q1
            go_wp2
            all_goals go_ret
            all_goals rw [Hd.out]
            all_goals exact ⟨rfl, H1.out.err _, only_drewN (only_store G1.out _) _⟩
          · rw [if_neg hB] at hd
            by_cases hC : s[n + k].toNat < 128
            · rw [if_pos hC] at hd
              have Hd := Lib.hid hd; clear hd
              by_cases h9 : 9 ≤ k
              · have h1 : s[n + k].toNat ≤ 1 := by omega
                have hz : ((s[n + k].toNat : Int) == 0) = false := by simp; omega
                clear hA hB
                go_wp2
                go_quiet (fail)
                go_wp2
                have q1 : IntKind.i64.wrap ((n : Int) + (k : Int)) = (n : Int) + (k : Int) := IntWalk.i64_in _ (by omega)
                have q2 : ((n : Int) + (k : Int)).toNat = n + k := by omega
                have q3 : (0 : Int) ≤ (n : Int) + (k : Int) := by omega
                go_quiet (fail)
                clear q1
                go_wp2
                go_ret
                rw [Hd.out]
                exact ⟨ret_u64 (stp_nine ‹_› (by omega)), RdB.eat H1.out (by show _ = ((n + (k + 1) : Nat) : Int); omega), only_drewN (only_store G1.out _) _⟩
              · have hz : 0 < k → ((s[n + k].toNat : Int) == 0) = false := by intro h; simp; omega
                clear hA hB
                go_wp2
                go_quiet (fail)
                go_wp2
                have q1 : IntKind.i64.wrap ((n : Int) + (k : Int)) = (n : Int) + (k : Int) := IntWalk.i64_in _ (by omega)
                have q2 : ((n : Int) + (k : Int)).toNat = n + k := by omega
                have q3 : (0 : Int) ≤ (n : Int) + (k : Int) := by omega
                go_quiet (fail)
                clear q1
                go_wp2
                all_goals go_ret
                all_goals rw [Hd.out]
                all_goals exact ⟨rfl, RdB.eat H1.out (by show _ = ((n + (k + 1) : Nat) : Int); omega), only_drewN (only_store G1.out _) _⟩
            · rw [if_neg hC] at hd
              have Hd := Lib.hid hd; clear hd
              have h1 : k < 9 := by omega
              have hz : 0 < k → ((s[n + k].toNat : Int) == 0) = false := by intro h; simp; omega
              clear hA hB
              go_wp2
              go_quiet (fail)
              go_wp2
              have q1 : IntKind.i64.wrap ((n : Int) + (k : Int)) = (n : Int) + (k : Int) := IntWalk.i64_in _ (by omega)
              have q2 : ((n : Int) + (k : Int)).toNat = n + k := by omega
              have q3 : (0 : Int) ≤ (n : Int) + (k : Int) := by omega
              go_quiet (fail)
              clear q1
              go_wp2
              all_goals go_roundw
              all_goals first | exact ⟨k + 1, _, by omega, by omega, by go_num, rfl, Hd.out, H1.out, only_drewN G1.out _⟩ | (simp [intOf]; omega)
      · rw [drop_end hlt, decL] at hd
        have Hd := Lib.hid hd; clear hd
        go_wp2
        go_quiet (fail)
        go_wp2
        go_ret
        rw [Hd.out]
        exact ⟨rfl, H1.out.err _, only_drewN (only_store G1.out _) _⟩

theorem numB (g : Nat) (s : ByteArray) (n : Nat) (e : Int) (hs : s.size ≤ 140737488351232) (hn : n ≤ s.size) (w : World) (h : RdB w g s n e) :
    Calls Tryz.prog 46 #[.pointer (some ⟨g, 0, none⟩)] w fun r w' => r = .returned (.int .u64 (rNum (s.data.toList.drop n) e).1) ∧ RdB w' g s (n + (rNum (s.data.toList.drop n) e).2.1) (rNum (s.data.toList.drop n) e).2.2 ∧ w.grownBy w' (some g) := by
  by_cases he : e = 0
  · subst he
    rw [rNum_zero]
    exact numB_go g s n hs hn w h
  · have hr : ∀ l, rNum l e = (0, 0, e) := by intro l; simp [rNum, he]
    rw [hr]; clear hr
    obtain ⟨c0, c1, c2, f0, f1, f2⟩ := h.facts
    have H := Lib.hid h; clear h
    have he' : (e != 0) = true := by simpa using he
    clear he
    go_enter Tryz.func46, Tryz.ntmps46
    go_wp2
    go_ret
    exact ⟨rfl, H.out, World.grownBy.refl w _⟩
end Go.Proofs.YtmepiogoofmbbaaGreatDoor.code
namespace Go.Proofs.YtmepiogoofmbbaaGreatDoor.code
open Go.ChangeShapes Go.WideShapes Go.ChangeAt Go.RowKit
open Go.Proofs.YtmepiogoofmbbaaGreatDoor.enc Go.Proofs.YtmepiogoofmbbaaGreatDoor.block

theorem failB (g : Nat) (s : ByteArray) (n : Nat) (e x : Int) (w : World) (h : RdB w g s n e) :
    Calls Tryz.prog 32 #[.pointer (some ⟨g, 0, none⟩), .int .i64 x] w fun r w' => r = .returned (.tuple #[]) ∧ RdB w' g s n (rFail e x) ∧ w.grownBy w' (some g) := by
  obtain ⟨c0, c1, c2, f0, f1, f2⟩ := h.facts
  have H := Lib.hid h; clear h
  by_cases he : e = 0
  · subst he
    have hr : rFail 0 x = x := by simp [rFail]
    rw [hr]; clear hr
    go_enter Tryz.func32, Tryz.ntmps32
    go_wp2
    go_end0
    exact ⟨rfl, H.out.err _, only_store (World.grownBy.refl w _) _⟩
  · have hr : rFail e x = e := by simp [rFail, he]
    rw [hr]; clear hr
    have he' : (e == 0) = false := by simpa using he
    clear he
    go_enter Tryz.func32, Tryz.ntmps32
    go_wp2
    go_end0
    exact ⟨rfl, H.out, World.grownBy.refl w _⟩
theorem leftB (g : Nat) (s : ByteArray) (n : Nat) (e : Int) (hs : s.size ≤ 140737488351232) (hn : n ≤ s.size) (w : World) (h : RdB w g s n e) :
    Calls Tryz.prog 16 #[.pointer (some ⟨g, 0, none⟩)] w fun r w' => r = .returned (.int .i64 (s.data.toList.drop n).length) ∧ RdB w' g s n e ∧ w.grownBy w' (some g) := by
  obtain ⟨c0, c1, c2, f0, f1, f2⟩ := h.facts
  have H := Lib.hid h; clear h
  go_enter Tryz.func16, Tryz.ntmps16
  go_wp2
  go_quiet (fail)
  go_wp2
  go_ret
  exact ⟨ret_i64 (by simp; omega), H.out, only_drewN (World.grownBy.refl w _) _⟩
theorem intB (g : Nat) (s : ByteArray) (n : Nat) (e m : Int) (hs : s.size ≤ 140737488351232) (hn : n ≤ s.size) (hm0 : -9223372036854775808 ≤ m) (hm1 : m ≤ 9223372036854775807) (w : World) (h : RdB w g s n e) :
    Calls Tryz.prog 30 #[.pointer (some ⟨g, 0, none⟩), .int .i64 m] w fun r w' => r = .returned (.int .i64 (rInt (s.data.toList.drop n) e m).1) ∧ RdB w' g s (n + (rInt (s.data.toList.drop n) e m).2.1) (rInt (s.data.toList.drop n) e m).2.2 ∧ w.grownBy w' (some g) := by
  obtain ⟨b0, b1, b2⟩ := rNum_bd (s.data.toList.drop n) e
  have hN := numB g s n e hs hn w h
  by_cases he : (rNum (s.data.toList.drop n) e).2.2 = 0
  · by_cases hc : m < 0 ∨ m < (rNum (s.data.toList.drop n) e).1
    · have hr : rInt (s.data.toList.drop n) e m = (0, (rNum (s.data.toList.drop n) e).2.1, 1) := by simp [rInt, he, hc]
      rw [hr]; clear hr
      rw [he] at hN
      generalize rNum (s.data.toList.drop n) e = r at hN b0 b1 b2 hc
      have HN := Lib.hid hN; clear hN he
      by_cases hc0 : m < 0
      · clear hc
        go_enter Tryz.func30, Tryz.ntmps30
        go_wp2_with fail
        refine HN.out.mono ?_
        rintro e w' ⟨rfl, h1, g1⟩
        obtain ⟨c0, c1, c2, f0, f1, f2⟩ := h1.facts
        go_wp2
        go_ret
        exact ⟨rfl, h1.err _, only_store g1 _⟩
      · have hc1 : m < r.1 := by omega
        clear hc
        go_enter Tryz.func30, Tryz.ntmps30
        go_wp2_with fail
        refine HN.out.mono ?_
        rintro e w' ⟨rfl, h1, g1⟩
        obtain ⟨c0, c1, c2, f0, f1, f2⟩ := h1.facts
        go_wp2
        go_ret
        exact ⟨rfl, h1.err _, only_store g1 _⟩
    · have hr : rInt (s.data.toList.drop n) e m = rNum (s.data.toList.drop n) e := by simp only [rInt, he, if_true, if_neg hc]
      rw [hr]; clear hr
      rw [he] at hN
      rw [he]
      generalize rNum (s.data.toList.drop n) e = r at hN b0 b1 b2 hc
      have HN := Lib.hid hN; clear hN he
      have hc0 : 0 ≤ m := by omega
      have hc1 : r.1 ≤ m := by omega
      clear hc
      go_enter Tryz.func30, Tryz.ntmps30
      go_wp2_with fail
      refine HN.out.mono ?_
      rintro e w' ⟨rfl, h1, g1⟩
      obtain ⟨c0, c1, c2, f0, f1, f2⟩ := h1.facts
      go_wp2
      go_ret
      exact ⟨rfl, h1, g1⟩
  · have hr : rInt (s.data.toList.drop n) e m = (0, (rNum (s.data.toList.drop n) e).2.1, (rNum (s.data.toList.drop n) e).2.2) := by simp only [rInt, if_neg he]
    rw [hr]; clear hr
    have he' : ((rNum (s.data.toList.drop n) e).2.2 != 0) = true := by simpa using he
    have he2 : ((rNum (s.data.toList.drop n) e).2.2 == 0) = false := by simpa using he
    generalize rNum (s.data.toList.drop n) e = r at hN b0 b1 b2 he' he2
    have HN := Lib.hid hN; clear hN he
    go_enter Tryz.func30, Tryz.ntmps30
    go_wp2_with fail
    refine HN.out.mono ?_
    rintro e w' ⟨rfl, h1, g1⟩
    obtain ⟨c0, c1, c2, f0, f1, f2⟩ := h1.facts
    go_wp2
    go_ret
    exact ⟨rfl, h1, g1⟩

end Go.Proofs.YtmepiogoofmbbaaGreatDoor.code
namespace Go.Proofs.YtmepiogoofmbbaaGreatDoor.stamp
open Go.ChangeShapes Go.WideShapes Go.ChangeAt Go.RowKit
open Go.Proofs.YtmepiogoofmbbaaGreatDoor.tm Go.Proofs.YtmepiogoofmbbaaGreatDoor.opened Go.Proofs.YtmepiogoofmbbaaGreatDoor.block Go.Proofs.YtmepiogoofmbbaaGreatDoor.enc Go.Proofs.YtmepiogoofmbbaaGreatDoor.code

/-- The bytes of a number. -/
def encI (x : Int) : List UInt8 := enc x.toNat
/-- The bytes of numbers. -/
def encs : List Int → List UInt8
  | [] => []
  | x :: l => encI x ++ encs l
theorem encs_snoc (l : List Int) (x : Int) : encs (l ++ [x]) = encs l ++ encI x := by
  induction l with
  | nil => simp [encs]
  | cons y l ih => simp [encs, ih]
theorem len_encI (x : Int) : (encI x).length ≤ 10 := by have := len_enc x.toNat; exact this
theorem len_encs (l : List Int) : (encs l).length ≤ 10 * l.length := by
  induction l with
  | nil => simp [encs]
  | cons y l ih => have := len_encI y; simp [encs]; omega
def wrtL (t : Tm) : List UInt8 := encI t.d ++ encs (cnt t)
def wrtV (t : Tm) : List UInt8 := if chk t = 0 then wrtL t else []
theorem num_i (a : Int) (h0 : 0 ≤ a) (h1 : a ≤ 18446744073709551615) (w : World) : Calls Tryz.prog 23 #[.int .u64 a] w fun e w' => e = .returned (.string ⟨(encI a).toArray⟩) ∧ Below w.heap.size w w' := numI_any a h0 h1 w
theorem numR_i (a : Int) (h0 : 0 ≤ a) (h1 : a ≤ 18446744073709551615) (w : World) : Calls Tryz.prog 24 #[.int .u64 a] w fun e w' => e = .returned (.string ⟨(encI a).toArray⟩) ∧ Below w.heap.size w w' := numRI_any a h0 h1 w
theorem str_cat (l m : List UInt8) : (⟨l.toArray⟩ : ByteArray) ++ ⟨m.toArray⟩ = ⟨(l ++ m).toArray⟩ := ByteArray.ext (by simp)
theorem cnt_len {t : Tm} (_h0 : 0 ≤ t.d) (_h1 : t.d ≤ 3) : (cnt t).length ≤ 4 := by
  unfold cnt
  split
  · simp
  · split
    · simp
    · split <;> simp
theorem cnt_in {t : Tm} (i : t.In) : ∀ x ∈ cnt t, 0 ≤ x ∧ x ≤ 4294967295 := by
  have := i.e0; have := i.e1; have := i.a0; have := i.a1; have := i.b0; have := i.b1; have := i.c0; have := i.c1
  unfold cnt
  split
  · simp; omega
  · split
    · simp; omega
    · split
      · simp; omega
      · simp; omega
theorem write_bad (t : Tm) (i : t.In) (h : chk t ≠ 0) (w : World) : Calls Tryz.prog 22 #[.agg #[.int .u32 t.e, .int .i64 t.d, .int .u32 t.a, .int .u32 t.b, .int .u32 t.c]] w fun e w' => e = .returned (.tuple #[.string ⟨#[]⟩, .int .i64 (chk t)]) ∧ Below w.heap.size w w' := by
  generalize hE : chk t = E at h
  have h' : (E != 0) = true := by simpa using h
  clear h
  have HE := Lib.hid hE
  clear hE
  go_enter Tryz.func22, Tryz.ntmps22
  go_wp2_with fail
  refine (check_is _ i HE.out _).mono ?_
  rintro e w1 ⟨rfl, b1⟩
  go_wp2
  go_ret2
  exact ⟨rfl, over1 b1⟩
theorem writeR_bad (t : Tm) (i : t.In) (h : chk t ≠ 0) (w : World) : Calls Tryz.prog 25 #[.agg #[.int .u32 t.e, .int .i64 t.d, .int .u32 t.a, .int .u32 t.b, .int .u32 t.c]] w fun e w' => e = .returned (.tuple #[.string ⟨#[]⟩, .int .i64 (chk t)]) ∧ Below w.heap.size w w' := by
  generalize hE : chk t = E at h
  have h' : (E != 0) = true := by simpa using h
  clear h
  have HE := Lib.hid hE
  clear hE
  go_enter Tryz.func25, Tryz.ntmps25
  go_wp2_with fail
  refine (checkR_is _ i HE.out _).mono ?_
  rintro e w1 ⟨rfl, b1⟩
  go_wp2
  go_ret2
  exact ⟨rfl, over1 b1⟩
theorem facts5' {w : World} {g : Nat} {a b c d e : Value} (h : Whole w g 49 #[a, b, c, d, e]) :
    w.cell? ⟨g, 0, none⟩ = some a ∧ w.cell? ⟨g, 1, none⟩ = some b ∧ w.cell? ⟨g, 2, none⟩ = some c ∧ w.cell? ⟨g, 3, none⟩ = some d ∧ w.cell? ⟨g, 4, none⟩ = some e ∧
    w.frozen? ⟨g, 0, none⟩ = false ∧ w.frozen? ⟨g, 1, none⟩ = false ∧ w.frozen? ⟨g, 2, none⟩ = false ∧ w.frozen? ⟨g, 3, none⟩ = false ∧ w.frozen? ⟨g, 4, none⟩ = false :=
  ⟨h.read 0, h.read 1, h.read 2, h.read 3, h.read 4, h.soft 0, h.soft 1, h.soft 2, h.soft 3, h.soft 4⟩
theorem str_ret2 {a b : ByteArray} {x : Int} (h : a = b) : Ending.returned (.tuple #[.string a, .int .i64 x]) = .returned (.tuple #[.string b, .int .i64 x]) := by rw [h]
set_option maxRecDepth 100000 in
set_option maxHeartbeats 1000000 in
theorem write_good (t : Tm) (i : t.In) (h : chk t = 0) (w : World) : Calls Tryz.prog 22 #[.agg #[.int .u32 t.e, .int .i64 t.d, .int .u32 t.a, .int .u32 t.b, .int .u32 t.c]] w fun e w' => e = .returned (.tuple #[.string ⟨(wrtL t).toArray⟩, .int .i64 0]) ∧ Below w.heap.size w w' := by
  obtain ⟨z0, z1, -⟩ := chk_zero h
  have HE := Lib.hid h
  clear h
  have hcl := cnt_len z0 z1
  have HI := Lib.hid (cnt_in i)
  have HC := Lib.hid (fun W => counts_any t z0 z1 W)
  generalize hl : cnt t = l at hcl HI HC
  have HL := Lib.hid hl
  clear hl
  have hdl := len_encI t.d
  go_enter Tryz.func22, Tryz.ntmps22
  go_wp2_with fail
  refine (check_is _ i HE.out _).mono ?_
  rintro e w1 ⟨rfl, b1⟩
  clear i
  have h1 : Whole w1 w.heap.size 49 #[.int .u32 t.e, .int .i64 t.d, .int .u32 t.a, .int .u32 t.b, .int .u32 t.c] := (Whole.fresh w 49 _).below b1 (by simp)
  have v1 := over1 b1
  clear b1
  obtain ⟨aa0, aa1, aa2, aa3, aa4, aaf0, aaf1, aaf2, aaf3, aaf4⟩ := facts5' h1
  go_wp2_with fail
  refine (num_i _ (by omega) (by omega) _).mono ?_
  rintro e w2 ⟨rfl, b2⟩
  have h2 := h1.below b2 h1.inside
  have v2 := v1.trans (b2.mono v1.size)
  clear b2 aa0 aa1 aa2 aa3 aa4 aaf0 aaf1 aaf2 aaf3 aaf4 h1 v1
  obtain ⟨aa0, aa1, aa2, aa3, aa4, aaf0, aaf1, aaf2, aaf3, aaf4⟩ := facts5' h2
  go_wp2_with fail
  refine (HC.out _).mono ?_
  rintro e w3 ⟨b, cap, rfl, hown, b3⟩
  have v3 := v2.trans (b3.mono v2.size)
  clear b3 aa0 aa1 aa2 aa3 aa4 aaf0 aaf1 aaf2 aaf3 aaf4 h2 v2 HC
  go_wp2_with fail
  go_loopw [5, 20] (fun s i wr => ∃ k : Nat, k ≤ l.length ∧ i = .int .i64 k ∧ s = .string ⟨(encI t.d ++ encs (l.take k)).toArray⟩ ∧ Below w3.heap.size w3 wr) (fun _ i _ => l.length - (intOf i).toNat)
  case atStart => exact ⟨0, by omega, rfl, by simp [encs], Below.refl _ _⟩
  case round =>
    obtain ⟨k, hk, rfl, rfl, hb⟩ := hrel
    have hlen := len_encs (l.take k)
    rw [List.length_take] at hlen
    by_cases hkl : k < l.length
    · have hx := HI.out l[k] (List.getElem_mem hkl)
      have hc : wr.cell? ⟨b, k, none⟩ = some (.int .u32 l[k]) := by
        have h4 := hown.cellAt k (by omega)
        rw [List.getElem?_map, List.getElem?_eq_getElem hkl] at h4
        exact (hb.cell (p := ⟨b, k, none⟩) (World.block_lt_of_cell? w3 _ h4)).trans h4
      obtain ⟨x0, x1⟩ := hx
      have hsn : encs (l.take (k + 1)) = encs (l.take k) ++ encI l[k] := by rw [List.take_succ_eq_append_getElem hkl, encs_snoc]
      have HSN := Lib.hid hsn
      clear hsn
      generalize l[k] = x at hc x0 x1 HSN
      have hlx := len_encI x
      go_wp2_with fail
      refine (num_i _ (by omega) (by omega) _).mono ?_
      rintro e w4 ⟨rfl, b4⟩
      go_wp2
      go_roundw
      case rel => exact ⟨k + 1, by omega, by go_num, by rw [str_cat, HSN.out, List.append_assoc], hb.trans (b4.mono hb.size)⟩
      case measure => simp [intOf]; omega
    · go_wp2
      go_ret2
      exact ⟨str_ret2 (by rw [List.take_of_length_le (by omega), ← HL.out]; rfl), v3.trans (hb.mono v3.size)⟩
theorem since5 {W : World} {g : Nat} {a b c d e : Value} (h : Whole W g 49 #[a, b, c, d, e]) :
    (∀ x : Since W, x.1.cell? ⟨g, 0, none⟩ = some a) ∧ (∀ x : Since W, x.1.cell? ⟨g, 1, none⟩ = some b) ∧ (∀ x : Since W, x.1.cell? ⟨g, 2, none⟩ = some c) ∧ (∀ x : Since W, x.1.cell? ⟨g, 3, none⟩ = some d) ∧ (∀ x : Since W, x.1.cell? ⟨g, 4, none⟩ = some e) :=
  ⟨fun x => (h.below x.2 h.inside).read 0, fun x => (h.below x.2 h.inside).read 1, fun x => (h.below x.2 h.inside).read 2, fun x => (h.below x.2 h.inside).read 3, fun x => (h.below x.2 h.inside).read 4⟩
/-- The bytes of a time's front. -/
def wrp (t : Tm) : Nat → List UInt8
  | 0 => encI t.d ++ encI t.e
  | 1 => encI t.d ++ encI t.e ++ encI t.a
  | 2 => encI t.d ++ encI t.e ++ encI t.a ++ encI t.b
  | _ => encI t.d ++ encI t.e ++ encI t.a ++ encI t.b ++ encI t.c
theorem wrp_all {t : Tm} (h0 : 0 ≤ t.d) (h1 : t.d ≤ 3) : wrp t t.d.toNat = wrtL t := by
  obtain ⟨e, d, a, b, c⟩ := t
  dsimp only at *
  have hk : d = 0 ∨ d = 1 ∨ d = 2 ∨ d = 3 := by omega
  rcases hk with rfl | rfl | rfl | rfl <;> simp [wrp, wrtL, cnt, encs]
theorem len_wrp (t : Tm) (k : Nat) : (wrp t k).length ≤ 50 := by
  have := len_encI t.d; have := len_encI t.e; have := len_encI t.a; have := len_encI t.b; have := len_encI t.c
  unfold wrp
  split <;> simp <;> omega
set_option maxRecDepth 100000 in
set_option maxHeartbeats 1000000 in
theorem writeR_good (t : Tm) (i : t.In) (h : chk t = 0) (w : World) : Calls Tryz.prog 25 #[.agg #[.int .u32 t.e, .int .i64 t.d, .int .u32 t.a, .int .u32 t.b, .int .u32 t.c]] w fun e w' => e = .returned (.tuple #[.string ⟨(wrtL t).toArray⟩, .int .i64 0]) ∧ Below w.heap.size w w' := by
  obtain ⟨z0, z1, -⟩ := chk_zero h
  have HE := Lib.hid h
  clear h
  obtain ⟨i0, i1, -, -, j0, j1, k0, k1, l0, l1⟩ := id i
  have hdl := len_encI t.d
  have hel := len_encI t.e
  have N1 := Lib.hid (fun W => numR_i t.d (by omega) (by omega) W)
  have N2 := Lib.hid (fun W => numR_i t.e (by omega) (by omega) W)
  go_enter Tryz.func25, Tryz.ntmps25
  go_wp2_with fail
  refine (checkR_is _ i HE.out _).mono ?_
  rintro e w1 ⟨rfl, b1⟩
  clear i
  have h1 : Whole w1 w.heap.size 49 #[.int .u32 t.e, .int .i64 t.d, .int .u32 t.a, .int .u32 t.b, .int .u32 t.c] := (Whole.fresh w 49 _).below b1 (by simp)
  have v1 := over1 b1
  clear b1
  generalize hg : w.heap.size = g at h1 v1 ⊢
  have HG := Lib.hid hg
  clear hg
  go_wp2_with fail
  obtain ⟨p0, p1, p2, p3, p4⟩ := since5 h1
  refine region_since w1 (by kernel_rfl) (by kernel_rfl) (Below.refl _ _) ?_
  repeat (go_big_quiet_step ((first | (go_at_call 24; with_reducible exact since_call N1.out _) | (go_at_call 24; with_reducible exact since_call N2.out _))))
  refine wpQuiet_nil ?_
  rintro w2 ⟨x, hw⟩
  have h2 : Whole w2 g 49 #[.int .u32 t.e, .int .i64 t.d, .int .u32 t.a, .int .u32 t.b, .int .u32 t.c] := hw ▸ h1.below x.2 h1.inside
  have v2 : Below g w w2 := hw ▸ v1.trans (x.2.mono (Nat.le_of_lt h1.inside))
  clear hw x h1 v1 p0 p1 p2 p3 p4 N1 N2
  go_wp2_with fail
  go_loopw [5, 6] (fun s i wr => ∃ k : Nat, (k : Int) ≤ t.d ∧ i = .int .i64 k ∧ s = .string ⟨(wrp t k).toArray⟩ ∧ Whole wr g 49 #[.int .u32 t.e, .int .i64 t.d, .int .u32 t.a, .int .u32 t.b, .int .u32 t.c] ∧ Below g w wr) (fun _ i _ => 3 - (intOf i).toNat)
  case atStart => exact ⟨0, z0, rfl, by rw [str_cat]; rfl, h2, v2⟩
  case round =>
    clear h2 v2
    obtain ⟨k, hk, rfl, rfl, ht, hb⟩ := hrel
    have hlen := len_wrp t k
    by_cases hkd : (k : Int) < t.d
    · obtain rfl | rfl | rfl : k = 0 ∨ k = 1 ∨ k = 2 := by omega
      · obtain ⟨aa0, aa1, aa2, aa3, aa4, aaf0, aaf1, aaf2, aaf3, aaf4⟩ := facts5' ht
        have hla := len_encI t.a
        go_wp2_with fail
        refine (numR_i t.a (by omega) (by omega) _).mono ?_
        rintro e w4 ⟨rfl, b4⟩
        clear aa0 aa1 aa2 aa3 aa4 aaf0 aaf1 aaf2 aaf3 aaf4
        have ht4 := ht.below b4 ht.inside
        go_wp2
        go_roundw
        case rel => exact ⟨1, by omega, by go_num, by rw [str_cat]; simp [wrp], ht4, hb.trans (b4.mono (Nat.le_of_lt ht.inside))⟩
        case measure => simp [intOf]
      · obtain ⟨aa0, aa1, aa2, aa3, aa4, aaf0, aaf1, aaf2, aaf3, aaf4⟩ := facts5' ht
        have hla := len_encI t.b
        go_wp2_with fail
        refine (numR_i t.b (by omega) (by omega) _).mono ?_
        rintro e w4 ⟨rfl, b4⟩
        clear aa0 aa1 aa2 aa3 aa4 aaf0 aaf1 aaf2 aaf3 aaf4
        have ht4 := ht.below b4 ht.inside
        go_wp2
        go_roundw
        case rel => exact ⟨2, by omega, by go_num, by rw [str_cat]; simp [wrp], ht4, hb.trans (b4.mono (Nat.le_of_lt ht.inside))⟩
        case measure => simp [intOf]
      · obtain ⟨aa0, aa1, aa2, aa3, aa4, aaf0, aaf1, aaf2, aaf3, aaf4⟩ := facts5' ht
        have hla := len_encI t.c
        go_wp2_with fail
        refine (numR_i t.c (by omega) (by omega) _).mono ?_
        rintro e w4 ⟨rfl, b4⟩
        clear aa0 aa1 aa2 aa3 aa4 aaf0 aaf1 aaf2 aaf3 aaf4
        have ht4 := ht.below b4 ht.inside
        go_wp2
        go_roundw
        case rel => exact ⟨3, by omega, by go_num, by rw [str_cat]; simp [wrp], ht4, hb.trans (b4.mono (Nat.le_of_lt ht.inside))⟩
        case measure => simp [intOf]
    · have hkk : k = t.d.toNat := by omega
      have HK := Lib.hid hkk
      clear hkk
      obtain ⟨aa0, aa1, aa2, aa3, aa4, aaf0, aaf1, aaf2, aaf3, aaf4⟩ := facts5' ht
      go_wp2
      go_ret2
      exact ⟨str_ret2 (by rw [HK.out, wrp_all z0 z1]), by have := HG.out; subst this; exact hb⟩
theorem write_any (t : Tm) (i : t.In) (w : World) : Calls Tryz.prog 22 #[.agg #[.int .u32 t.e, .int .i64 t.d, .int .u32 t.a, .int .u32 t.b, .int .u32 t.c]] w fun e w' => e = .returned (.tuple #[.string ⟨(wrtV t).toArray⟩, .int .i64 (chk t)]) ∧ Below w.heap.size w w' := by
  by_cases h : chk t = 0
  · rw [show wrtV t = wrtL t by simp [wrtV, h], h]
    exact write_good t i h w
  · rw [show wrtV t = [] by simp [wrtV, h]]
    exact write_bad t i h w
theorem writeR_any (t : Tm) (i : t.In) (w : World) : Calls Tryz.prog 25 #[.agg #[.int .u32 t.e, .int .i64 t.d, .int .u32 t.a, .int .u32 t.b, .int .u32 t.c]] w fun e w' => e = .returned (.tuple #[.string ⟨(wrtV t).toArray⟩, .int .i64 (chk t)]) ∧ Below w.heap.size w w' := by
  by_cases h : chk t = 0
  · rw [show wrtV t = wrtL t by simp [wrtV, h], h]
    exact writeR_good t i h w
  · rw [show wrtV t = [] by simp [wrtV, h]]
    exact writeR_bad t i h w
end Go.Proofs.YtmepiogoofmbbaaGreatDoor.stamp
namespace Go.Proofs.YtmepiogoofmbbaaGreatDoor.stamp
open Go.ChangeShapes Go.WideShapes Go.ChangeAt Go.RowKit
open Go.Proofs.YtmepiogoofmbbaaGreatDoor.tm Go.Proofs.YtmepiogoofmbbaaGreatDoor.opened Go.Proofs.YtmepiogoofmbbaaGreatDoor.block Go.Proofs.YtmepiogoofmbbaaGreatDoor.enc Go.Proofs.YtmepiogoofmbbaaGreatDoor.code

/-- One number more is read: what it is, what is left, what is wrong. -/
def nx (q : List UInt8 × Int) (m : Int) : Int × List UInt8 × Int := ((rInt q.1 q.2 m).1, q.1.drop (rInt q.1 q.2 m).2.1, (rInt q.1 q.2 m).2.2)
theorem nx_bd (q : List UInt8 × Int) {m : Int} (hm : 0 ≤ m) : 0 ≤ (nx q m).1 ∧ (nx q m).1 ≤ m ∧ (nx q m).2.1.length ≤ q.1.length := by
  have := rInt_bd q.1 q.2 m
  unfold nx
  simp only [List.length_drop]
  omega
/-- What has been read, of a time and of the bytes. -/
def st0 (q : List UInt8 × Int) : Tm × List UInt8 × Int := (⟨(nx (nx q 3).2 1048576).1, (nx q 3).1, 0, 0, 0⟩, (nx (nx q 3).2 1048576).2)
def st1 (q : List UInt8 × Int) : Tm × List UInt8 × Int := (⟨(st0 q).1.e, (st0 q).1.d, (nx (st0 q).2 1048576).1, 0, 0⟩, (nx (st0 q).2 1048576).2)
def st2 (q : List UInt8 × Int) : Tm × List UInt8 × Int := (⟨(st1 q).1.e, (st1 q).1.d, (st1 q).1.a, (nx (st1 q).2 1048576).1, 0⟩, (nx (st1 q).2 1048576).2)
def st3 (q : List UInt8 × Int) : Tm × List UInt8 × Int := (⟨(st2 q).1.e, (st2 q).1.d, (st2 q).1.a, (st2 q).1.b, (nx (st2 q).2 1048576).1⟩, (nx (st2 q).2 1048576).2)
def stt (q : List UInt8 × Int) : Nat → Tm × List UInt8 × Int
  | 0 => st0 q
  | 1 => st1 q
  | 2 => st2 q
  | _ => st3 q
def rdS (q : List UInt8 × Int) : Tm × List UInt8 × Int := stt q (nx q 3).1.toNat
def rdT (q : List UInt8 × Int) : Tm := if (rdS q).2.2 = 0 then (rdS q).1 else T0
theorem stt_d (q : List UInt8 × Int) (k : Nat) : (stt q k).1.d = (nx q 3).1 := by
  match k with
  | 0 => rfl
  | 1 => rfl
  | 2 => rfl
  | _ + 3 => rfl
theorem stt_len (q : List UInt8 × Int) (k : Nat) : (stt q k).2.1.length ≤ q.1.length := by
  have h0 : (stt q 0).2.1.length ≤ q.1.length := by
    have a := (nx_bd q (m := 3) (by omega)).2.2
    have b := (nx_bd (nx q 3).2 (m := 1048576) (by omega)).2.2
    exact Nat.le_trans b a
  have h1 : (stt q 1).2.1.length ≤ q.1.length := Nat.le_trans (nx_bd (stt q 0).2 (m := 1048576) (by omega)).2.2 h0
  have h2 : (stt q 2).2.1.length ≤ q.1.length := Nat.le_trans (nx_bd (stt q 1).2 (m := 1048576) (by omega)).2.2 h1
  match k with
  | 0 => exact h0
  | 1 => exact h1
  | 2 => exact h2
  | _ + 3 => exact Nat.le_trans (nx_bd (stt q 2).2 (m := 1048576) (by omega)).2.2 h2
/-- A reader of the program, by what is left and what is wrong. -/
def QA (w : World) (g : Nat) (q : List UInt8 × Int) : Prop := RdA w g q.1 q.2
/-- The document's own reader, by what is left and what is wrong. -/
def QB (w : World) (g : Nat) (q : List UInt8 × Int) : Prop := ∃ (s : ByteArray) (n : Nat), n ≤ s.size ∧ s.size ≤ 140737488351232 ∧ q.1 = s.data.toList.drop n ∧ RdB w g s n q.2
theorem QA.inside {w : World} {g : Nat} {q : List UInt8 × Int} (h : QA w g q) : g < w.heap.size := Whole.inside h
theorem QB.inside {w : World} {g : Nat} {q : List UInt8 × Int} (h : QB w g q) : g < w.heap.size := by
  obtain ⟨_, _, _, _, _, h⟩ := h
  exact Whole.inside h
theorem QA.alloc {w : World} {g : Nat} {q : List UInt8 × Int} (h : QA w g q) (o : Obj) : QA (w.alloc o) g q := Whole.alloc h o
theorem QB.alloc {w : World} {g : Nat} {q : List UInt8 × Int} (h : QB w g q) (o : Obj) : QB (w.alloc o) g q := by
  obtain ⟨s, n, a, b, c, h⟩ := h
  exact ⟨s, n, a, b, c, Whole.alloc h o⟩
theorem QA.aside {w : World} {g : Nat} {q : List UInt8 × Int} (h : QA w g q) {p : Addr} (hp : g ≠ p.block) (u : Value) : QA (w.setCell p u) g q := Whole.aside h hp u
theorem QB.aside {w : World} {g : Nat} {q : List UInt8 × Int} (h : QB w g q) {p : Addr} (hp : g ≠ p.block) (u : Value) : QB (w.setCell p u) g q := by
  obtain ⟨s, n, a, b, c, h⟩ := h
  exact ⟨s, n, a, b, c, Whole.aside h hp u⟩
theorem stepA (g : Nat) (q : List UInt8 × Int) (m : Int) (hl : q.1.length ≤ 9223372036854775807) (hm0 : -9223372036854775808 ≤ m) (hm1 : m ≤ 9223372036854775807) (w : World) (h : QA w g q) :
    Calls Tryz.prog 26 #[.pointer (some ⟨g, 0, none⟩), .int .i64 m] w fun r w' => r = .returned (.int .i64 (nx q m).1) ∧ QA w' g (nx q m).2 ∧ w.grownBy w' (some g) := intA g q.1 q.2 m hl hm0 hm1 w h
theorem stepB (g : Nat) (q : List UInt8 × Int) (m : Int) (_hl : q.1.length ≤ 9223372036854775807) (hm0 : -9223372036854775808 ≤ m) (hm1 : m ≤ 9223372036854775807) (w : World) (h : QB w g q) :
    Calls Tryz.prog 30 #[.pointer (some ⟨g, 0, none⟩), .int .i64 m] w fun r w' => r = .returned (.int .i64 (nx q m).1) ∧ QB w' g (nx q m).2 ∧ w.grownBy w' (some g) := by
  obtain ⟨s, n, a, b, c, h⟩ := h
  have k := intB g s n q.2 m b a hm0 hm1 w h
  have hb := (rInt_bd (s.data.toList.drop n) q.2 m).2.2
  unfold nx
  rw [c]
  refine k.mono fun r w' ⟨e, r1, g1⟩ => ⟨e, ⟨s, _, ?_, b, ?_, r1⟩, g1⟩
  · rw [List.length_drop] at hb
    have h3 : s.data.toList.length = s.size := rfl
    omega
  · simp [List.drop_drop]
theorem errQA (g : Nat) (q : List UInt8 × Int) (w : World) (h : QA w g q) : Calls Tryz.prog 14 #[.pointer (some ⟨g, 0, none⟩)] w fun r w' => r = .returned (.int .i64 q.2) ∧ w = w' := errA g q.1 q.2 w h
theorem QB.err {w : World} {g : Nat} {q : List UInt8 × Int} (h : QB w g q) : w.cell? ⟨g, 2, none⟩ = some (.int .i64 q.2) := by
  obtain ⟨s, n, _, _, _, h⟩ := h
  exact h.facts.2.2.1
theorem only_new {a w : World} {row : Option Nat} (h : a.grownBy w row) {p : Addr} (hp : a.heap.size ≤ p.block) (u : Value) : a.grownBy (w.setCell p u) row :=
  ⟨h.os, h.tape, h.output, by simpa [World.setCell] using h.size, fun k hk hne => (Below.heap_setCell w p u k (by omega)).trans (h.block k hk hne)⟩
theorem only_five {a w : World} {row : Option Nat} (h : a.grownBy w row) {k : Nat} (hk : a.heap.size ≤ k) (v0 v1 v2 v3 v4 : Value) :
    a.grownBy (((((w.setCell ⟨k, 0, none⟩ v0).setCell ⟨k, 1, none⟩ v1).setCell ⟨k, 2, none⟩ v2).setCell ⟨k, 3, none⟩ v3).setCell ⟨k, 4, none⟩ v4) row :=
  only_new (only_new (only_new (only_new (only_new h (p := ⟨k, 0, none⟩) hk v0) (p := ⟨k, 1, none⟩) hk v1) (p := ⟨k, 2, none⟩) hk v2) (p := ⟨k, 3, none⟩) hk v3) (p := ⟨k, 4, none⟩) hk v4
theorem five' {w : World} {g : Nat} {a b c d e : Value} (h : Whole w g 49 #[a, b, c, d, e]) (v0 v1 v2 v3 v4 : Value) :
    Whole (((((w.setCell ⟨g, 0, none⟩ v0).setCell ⟨g, 1, none⟩ v1).setCell ⟨g, 2, none⟩ v2).setCell ⟨g, 3, none⟩ v3).setCell ⟨g, 4, none⟩ v4) g 49 #[v0, v1, v2, v3, v4] := ((((h.store 0 v0).store 1 v1).store 2 v2).store 3 v3).store 4 v4
theorem QA.five {w : World} {g : Nat} {q : List UInt8 × Int} (h : QA w g q) {k : Nat} (hk : g ≠ k) (v0 v1 v2 v3 v4 : Value) :
    QA (((((w.setCell ⟨k, 0, none⟩ v0).setCell ⟨k, 1, none⟩ v1).setCell ⟨k, 2, none⟩ v2).setCell ⟨k, 3, none⟩ v3).setCell ⟨k, 4, none⟩ v4) g q := ((((h.aside (p := ⟨k, 0, none⟩) hk v0).aside (p := ⟨k, 1, none⟩) hk v1).aside (p := ⟨k, 2, none⟩) hk v2).aside (p := ⟨k, 3, none⟩) hk v3).aside (p := ⟨k, 4, none⟩) hk v4
theorem QB.five {w : World} {g : Nat} {q : List UInt8 × Int} (h : QB w g q) {k : Nat} (hk : g ≠ k) (v0 v1 v2 v3 v4 : Value) :
    QB (((((w.setCell ⟨k, 0, none⟩ v0).setCell ⟨k, 1, none⟩ v1).setCell ⟨k, 2, none⟩ v2).setCell ⟨k, 3, none⟩ v3).setCell ⟨k, 4, none⟩ v4) g q := ((((h.aside (p := ⟨k, 0, none⟩) hk v0).aside (p := ⟨k, 1, none⟩) hk v1).aside (p := ⟨k, 2, none⟩) hk v2).aside (p := ⟨k, 3, none⟩) hk v3).aside (p := ⟨k, 4, none⟩) hk v4
theorem ret_tm {a b : Tm} (h : a = b) : Ending.returned (.agg #[.int .u32 a.e, .int .i64 a.d, .int .u32 a.a, .int .u32 a.b, .int .u32 a.c]) = .returned (.agg #[.int .u32 b.e, .int .i64 b.d, .int .u32 b.a, .int .u32 b.b, .int .u32 b.c]) := by rw [h]
set_option maxRecDepth 100000 in
set_option maxHeartbeats 2000000 in
theorem readA (g : Nat) (q : List UInt8 × Int) (hl : q.1.length ≤ 9223372036854775807) (w : World) (h : QA w g q) :
    Calls Tryz.prog 27 #[.pointer (some ⟨g, 0, none⟩)] w fun r w' => r = .returned (.agg #[.int .u32 (rdT q).e, .int .i64 (rdT q).d, .int .u32 (rdT q).a, .int .u32 (rdT q).b, .int .u32 (rdT q).c]) ∧ QA w' g (rdS q).2 ∧ w.grownBy w' (some g) := by
  obtain ⟨m0, m1, ml⟩ := nx_bd q (m := 3) (by omega)
  obtain ⟨e0, e1, -⟩ := nx_bd (nx q 3).2 (m := 1048576) (by omega)
  have hg := h.inside
  go_enter Tryz.func27, Tryz.ntmps27
  go_wp2_with fail
  refine (stepA g q 3 hl (by omega) (by omega) _ (by exact h.alloc _)).mono ?_
  rintro r w1 ⟨rfl, q1, g1⟩
  have r1 : Whole w1 w.heap.size 49 #[.int .u32 0, .int .i64 0, .int .u32 0, .int .u32 0, .int .u32 0] := (Whole.fresh w 49 _).grown g1 (by simp; omega)
  have o1 : w.grownBy w1 (some g) := only_trans (only_alloc (World.grownBy.refl w _) _) g1
  clear g1 h
  go_wp2_with fail
  refine (stepA g (nx q 3).2 1048576 (Nat.le_trans ml hl) (by omega) (by omega) _ (by exact q1.alloc _)).mono ?_
  rintro r w2 ⟨rfl, q2, g2⟩
  have hp : w.heap.size < w1.heap.size := r1.inside
  have p2 : Whole w2 w1.heap.size 49 #[.int .u32 (⟨0, (nx q 3).1, 0, 0, 0⟩ : Tm).e, .int .i64 (⟨0, (nx q 3).1, 0, 0, 0⟩ : Tm).d, .int .u32 (⟨0, (nx q 3).1, 0, 0, 0⟩ : Tm).a, .int .u32 (⟨0, (nx q 3).1, 0, 0, 0⟩ : Tm).b, .int .u32 (⟨0, (nx q 3).1, 0, 0, 0⟩ : Tm).c] := (Whole.fresh w1 49 _).grown g2 (by simp; omega)
  have r2 : Whole w2 w.heap.size 49 #[.int .u32 0, .int .i64 0, .int .u32 0, .int .u32 0, .int .u32 0] := (r1.alloc _).grown g2 (by simp; omega)
  have o2 : w.grownBy w2 (some g) := only_trans (only_alloc o1 _) g2
  clear g2 q1 r1 o1
  generalize w1.heap.size = p at hp p2 ⊢
  generalize hr : w.heap.size = r at hp r2 hg ⊢
  have HR := Lib.hid hr
  clear hr
  have x1 : ¬ p = g := by omega
  have x2 : ¬ g = p := by omega
  have x3 : ¬ r = g := by omega
  have x4 : ¬ g = r := by omega
  have x5 : ¬ r = p := by omega
  have x6 : ¬ p = r := by omega
  have rp : r ≤ p := by omega
  obtain ⟨pp0, pp1, pp2, pp3, pp4, ppf0, ppf1, ppf2, ppf3, ppf4⟩ := facts5' p2
  go_wp2_with fail
  clear pp0 pp1 pp2 pp3 pp4 ppf0 ppf1 ppf2 ppf3 ppf4
  go_loopw [14] (fun i wr => ∃ k : Nat, (k : Int) ≤ (nx q 3).1 ∧ i = .int .i64 k ∧ Whole wr p 49 #[.int .u32 ((stt q k).1).e, .int .i64 ((stt q k).1).d, .int .u32 ((stt q k).1).a, .int .u32 ((stt q k).1).b, .int .u32 ((stt q k).1).c] ∧ Whole wr r 49 #[.int .u32 0, .int .i64 0, .int .u32 0, .int .u32 0, .int .u32 0] ∧ QA wr g (stt q k).2 ∧ w.grownBy wr (some g)) (fun i _ => (3 - intOf i).toNat)
  case atStart => exact ⟨0, m0, rfl, p2.store 0 _, r2.aside (by simp; omega) _, q2.aside (by simp; omega) _, only_new o2 (by have := HR.out; simp; omega) _⟩
  case round =>
    clear p2 r2 q2 o2
    obtain ⟨k, hk, rfl, hp, hr, hq, ho⟩ := hrel
    have hd := stt_d q k
    rw [hd] at hp
    clear hd
    by_cases hkd : (k : Int) < (nx q 3).1
    · obtain rfl | rfl | rfl : k = 0 ∨ k = 1 ∨ k = 2 := by omega
      · have hn := nx_bd (stt q 0).2 (m := 1048576) (by omega)
        obtain ⟨n0, n1, -⟩ := hn
        obtain ⟨pp0, pp1, pp2, pp3, pp4, ppf0, ppf1, ppf2, ppf3, ppf4⟩ := facts5' hp
        go_wp2_with fail
        refine (stepA g (stt q 0).2 1048576 (Nat.le_trans (stt_len q 0) hl) (by omega) (by omega) _ (by exact hq)).mono ?_
        rintro r w4 ⟨rfl, q4, g4⟩
        have p4 := hp.grown g4 (by simp; omega)
        have r4 := hr.grown g4 (by simp; omega)
        clear pp0 pp1 pp2 pp3 pp4 ppf0 ppf1 ppf2 ppf3 ppf4
        obtain ⟨pp0, pp1, pp2, pp3, pp4, ppf0, ppf1, ppf2, ppf3, ppf4⟩ := facts5' p4
        go_wp2_with fail
        go_roundw
        case rel => exact ⟨1, by omega, by go_num, p4.store 2 _, r4.aside (by simp; omega) _, q4.aside (by simp; omega) _, only_new (only_trans ho g4) (by have := HR.out; simp; omega) _⟩
        case measure => simp [intOf]
      · have hn := nx_bd (stt q 1).2 (m := 1048576) (by omega)
        obtain ⟨n0, n1, -⟩ := hn
        obtain ⟨pp0, pp1, pp2, pp3, pp4, ppf0, ppf1, ppf2, ppf3, ppf4⟩ := facts5' hp
        go_wp2_with fail
        refine (stepA g (stt q 1).2 1048576 (Nat.le_trans (stt_len q 1) hl) (by omega) (by omega) _ (by exact hq)).mono ?_
        rintro r w4 ⟨rfl, q4, g4⟩
        have p4 := hp.grown g4 (by simp; omega)
        have r4 := hr.grown g4 (by simp; omega)
        clear pp0 pp1 pp2 pp3 pp4 ppf0 ppf1 ppf2 ppf3 ppf4
        obtain ⟨pp0, pp1, pp2, pp3, pp4, ppf0, ppf1, ppf2, ppf3, ppf4⟩ := facts5' p4
        go_wp2_with fail
        go_roundw
        case rel => exact ⟨2, by omega, by go_num, p4.store 3 _, r4.aside (by simp; omega) _, q4.aside (by simp; omega) _, only_new (only_trans ho g4) (by have := HR.out; simp; omega) _⟩
        case measure => simp [intOf]
      · have hn := nx_bd (stt q 2).2 (m := 1048576) (by omega)
        obtain ⟨n0, n1, -⟩ := hn
        obtain ⟨pp0, pp1, pp2, pp3, pp4, ppf0, ppf1, ppf2, ppf3, ppf4⟩ := facts5' hp
        go_wp2_with fail
        refine (stepA g (stt q 2).2 1048576 (Nat.le_trans (stt_len q 2) hl) (by omega) (by omega) _ (by exact hq)).mono ?_
        rintro r w4 ⟨rfl, q4, g4⟩
        have p4 := hp.grown g4 (by simp; omega)
        have r4 := hr.grown g4 (by simp; omega)
        clear pp0 pp1 pp2 pp3 pp4 ppf0 ppf1 ppf2 ppf3 ppf4
        obtain ⟨pp0, pp1, pp2, pp3, pp4, ppf0, ppf1, ppf2, ppf3, ppf4⟩ := facts5' p4
        go_wp2_with fail
        go_roundw
        case rel => exact ⟨3, by omega, by go_num, p4.store 4 _, r4.aside (by simp; omega) _, q4.aside (by simp; omega) _, only_new (only_trans ho g4) (by have := HR.out; simp; omega) _⟩
        case measure => simp [intOf]
    · have hkk : k = (nx q 3).1.toNat := by omega
      have hS : rdS q = stt q k := by unfold rdS; rw [hkk]
      have hd := stt_d q k
      generalize stt q k = P at hp hq hS hd
      have HS := Lib.hid hS
      have HD := Lib.hid hd
      clear hS hd hkk
      obtain ⟨pp0, pp1, pp2, pp3, pp4, ppf0, ppf1, ppf2, ppf3, ppf4⟩ := facts5' hp
      obtain ⟨rr0, rr1, rr2, rr3, rr4, rrf0, rrf1, rrf2, rrf3, rrf4⟩ := facts5' hr
      by_cases he : P.2.2 = 0
      · have hne : (P.2.2 != 0) = false := by simpa using he
        have HE := Lib.hid he
        clear he
        go_wp2_with (go_at_call 14; refine (errQA _ _ _ (by exact hq)).mono ?_; rintro e w5 ⟨rfl, rfl⟩)
        exact bodyPost_ret (v := .agg #[.int .u32 P.1.e, .int .i64 (nx q 3).1, .int .u32 P.1.a, .int .u32 P.1.b, .int .u32 P.1.c]) (by obtain ⟨z0, z1, z2, z3, z4, -⟩ := facts5' (five' hr (.int .u32 P.1.e) (.int .i64 (nx q 3).1) (.int .u32 P.1.a) (.int .u32 P.1.b) (.int .u32 P.1.c)); simp [results, Tryz.results27, go_sem, z0, z1, z2, z3, z4]) rfl ⟨by rw [← HD.out]; exact ret_tm (by unfold rdT; rw [HS.out, if_pos HE.out]), by rw [HS.out]; exact hq.five x4 _ _ _ _ _, only_five ho (by have := HR.out; omega) _ _ _ _ _⟩
      · have hne : (P.2.2 != 0) = true := by simpa using he
        have HE := Lib.hid he
        clear he
        go_wp2_with (go_at_call 14; refine (errQA _ _ _ (by exact hq)).mono ?_; rintro e w5 ⟨rfl, rfl⟩)
        exact bodyPost_ret (v := .agg #[.int .u32 0, .int .i64 0, .int .u32 0, .int .u32 0, .int .u32 0]) (by obtain ⟨z0, z1, z2, z3, z4, -⟩ := facts5' (five' hr (.int .u32 0) (.int .i64 0) (.int .u32 0) (.int .u32 0) (.int .u32 0)); simp [results, Tryz.results27, go_sem, z0, z1, z2, z3, z4]) rfl ⟨(ret_tm (a := T0) (b := rdT q) (by unfold rdT; rw [HS.out, if_neg HE.out])), by rw [HS.out]; exact hq.five x4 _ _ _ _ _, only_five ho (by have := HR.out; omega) _ _ _ _ _⟩
set_option maxRecDepth 100000 in
set_option maxHeartbeats 2000000 in
theorem readB (g : Nat) (q : List UInt8 × Int) (hl : q.1.length ≤ 9223372036854775807) (w : World) (h : QB w g q) :
    Calls Tryz.prog 31 #[.pointer (some ⟨g, 0, none⟩)] w fun r w' => r = .returned (.agg #[.int .u32 (rdT q).e, .int .i64 (rdT q).d, .int .u32 (rdT q).a, .int .u32 (rdT q).b, .int .u32 (rdT q).c]) ∧ QB w' g (rdS q).2 ∧ w.grownBy w' (some g) := by
  obtain ⟨m0, m1, ml⟩ := nx_bd q (m := 3) (by omega)
  obtain ⟨e0, e1, -⟩ := nx_bd (nx q 3).2 (m := 1048576) (by omega)
  have hg := h.inside
  go_enter Tryz.func31, Tryz.ntmps31
  go_wp2_with fail
  refine (stepB g q 3 hl (by omega) (by omega) _ (by exact h.alloc _)).mono ?_
  rintro r w1 ⟨rfl, q1, g1⟩
  have r1 : Whole w1 w.heap.size 49 #[.int .u32 0, .int .i64 0, .int .u32 0, .int .u32 0, .int .u32 0] := (Whole.fresh w 49 _).grown g1 (by simp; omega)
  have o1 : w.grownBy w1 (some g) := only_trans (only_alloc (World.grownBy.refl w _) _) g1
  clear g1 h
  go_wp2_with fail
  refine (stepB g (nx q 3).2 1048576 (Nat.le_trans ml hl) (by omega) (by omega) _ (by exact q1.alloc _)).mono ?_
  rintro r w2 ⟨rfl, q2, g2⟩
  have hp : w.heap.size < w1.heap.size := r1.inside
  have p2 : Whole w2 w1.heap.size 49 #[.int .u32 (⟨0, (nx q 3).1, 0, 0, 0⟩ : Tm).e, .int .i64 (⟨0, (nx q 3).1, 0, 0, 0⟩ : Tm).d, .int .u32 (⟨0, (nx q 3).1, 0, 0, 0⟩ : Tm).a, .int .u32 (⟨0, (nx q 3).1, 0, 0, 0⟩ : Tm).b, .int .u32 (⟨0, (nx q 3).1, 0, 0, 0⟩ : Tm).c] := (Whole.fresh w1 49 _).grown g2 (by simp; omega)
  have r2 : Whole w2 w.heap.size 49 #[.int .u32 0, .int .i64 0, .int .u32 0, .int .u32 0, .int .u32 0] := (r1.alloc _).grown g2 (by simp; omega)
  have o2 : w.grownBy w2 (some g) := only_trans (only_alloc o1 _) g2
  clear g2 q1 r1 o1
  generalize w1.heap.size = p at hp p2 ⊢
  generalize hr : w.heap.size = r at hp r2 hg ⊢
  have HR := Lib.hid hr
  clear hr
  have x1 : ¬ p = g := by omega
  have x2 : ¬ g = p := by omega
  have x3 : ¬ r = g := by omega
  have x4 : ¬ g = r := by omega
  have x5 : ¬ r = p := by omega
  have x6 : ¬ p = r := by omega
  have rp : r ≤ p := by omega
  obtain ⟨pp0, pp1, pp2, pp3, pp4, ppf0, ppf1, ppf2, ppf3, ppf4⟩ := facts5' p2
  go_wp2_with fail
  clear pp0 pp1 pp2 pp3 pp4 ppf0 ppf1 ppf2 ppf3 ppf4
  go_loopw [4] (fun i wr => ∃ k : Nat, (k : Int) ≤ (nx q 3).1 ∧ i = .int .i64 k ∧ Whole wr p 49 #[.int .u32 ((stt q k).1).e, .int .i64 ((stt q k).1).d, .int .u32 ((stt q k).1).a, .int .u32 ((stt q k).1).b, .int .u32 ((stt q k).1).c] ∧ Whole wr r 49 #[.int .u32 0, .int .i64 0, .int .u32 0, .int .u32 0, .int .u32 0] ∧ QB wr g (stt q k).2 ∧ w.grownBy wr (some g)) (fun i _ => (3 - intOf i).toNat)
  case atStart => exact ⟨0, m0, rfl, p2.store 0 _, r2.aside (by simp; omega) _, q2.aside (by simp; omega) _, only_new o2 (by have := HR.out; simp; omega) _⟩
  case round =>
    clear p2 r2 q2 o2
    obtain ⟨k, hk, rfl, hp, hr, hq, ho⟩ := hrel
    have hd := stt_d q k
    rw [hd] at hp
    clear hd
    by_cases hkd : (k : Int) < (nx q 3).1
    · obtain rfl | rfl | rfl : k = 0 ∨ k = 1 ∨ k = 2 := by omega
      · have hn := nx_bd (stt q 0).2 (m := 1048576) (by omega)
        obtain ⟨n0, n1, -⟩ := hn
        obtain ⟨pp0, pp1, pp2, pp3, pp4, ppf0, ppf1, ppf2, ppf3, ppf4⟩ := facts5' hp
        go_wp2_with fail
        refine (stepB g (stt q 0).2 1048576 (Nat.le_trans (stt_len q 0) hl) (by omega) (by omega) _ (by exact hq)).mono ?_
        rintro r w4 ⟨rfl, q4, g4⟩
        have p4 := hp.grown g4 (by simp; omega)
        have r4 := hr.grown g4 (by simp; omega)
        clear pp0 pp1 pp2 pp3 pp4 ppf0 ppf1 ppf2 ppf3 ppf4
        obtain ⟨pp0, pp1, pp2, pp3, pp4, ppf0, ppf1, ppf2, ppf3, ppf4⟩ := facts5' p4
        go_wp2_with fail
        go_roundw
        case rel => exact ⟨1, by omega, by go_num, p4.store 2 _, r4.aside (by simp; omega) _, q4.aside (by simp; omega) _, only_new (only_trans ho g4) (by have := HR.out; simp; omega) _⟩
        case measure => simp [intOf]
      · have hn := nx_bd (stt q 1).2 (m := 1048576) (by omega)
        obtain ⟨n0, n1, -⟩ := hn
        obtain ⟨pp0, pp1, pp2, pp3, pp4, ppf0, ppf1, ppf2, ppf3, ppf4⟩ := facts5' hp
        go_wp2_with fail
        refine (stepB g (stt q 1).2 1048576 (Nat.le_trans (stt_len q 1) hl) (by omega) (by omega) _ (by exact hq)).mono ?_
        rintro r w4 ⟨rfl, q4, g4⟩
        have p4 := hp.grown g4 (by simp; omega)
        have r4 := hr.grown g4 (by simp; omega)
        clear pp0 pp1 pp2 pp3 pp4 ppf0 ppf1 ppf2 ppf3 ppf4
        obtain ⟨pp0, pp1, pp2, pp3, pp4, ppf0, ppf1, ppf2, ppf3, ppf4⟩ := facts5' p4
        go_wp2_with fail
        go_roundw
        case rel => exact ⟨2, by omega, by go_num, p4.store 3 _, r4.aside (by simp; omega) _, q4.aside (by simp; omega) _, only_new (only_trans ho g4) (by have := HR.out; simp; omega) _⟩
        case measure => simp [intOf]
      · have hn := nx_bd (stt q 2).2 (m := 1048576) (by omega)
        obtain ⟨n0, n1, -⟩ := hn
        obtain ⟨pp0, pp1, pp2, pp3, pp4, ppf0, ppf1, ppf2, ppf3, ppf4⟩ := facts5' hp
        go_wp2_with fail
        refine (stepB g (stt q 2).2 1048576 (Nat.le_trans (stt_len q 2) hl) (by omega) (by omega) _ (by exact hq)).mono ?_
        rintro r w4 ⟨rfl, q4, g4⟩
        have p4 := hp.grown g4 (by simp; omega)
        have r4 := hr.grown g4 (by simp; omega)
        clear pp0 pp1 pp2 pp3 pp4 ppf0 ppf1 ppf2 ppf3 ppf4
        obtain ⟨pp0, pp1, pp2, pp3, pp4, ppf0, ppf1, ppf2, ppf3, ppf4⟩ := facts5' p4
        go_wp2_with fail
        go_roundw
        case rel => exact ⟨3, by omega, by go_num, p4.store 4 _, r4.aside (by simp; omega) _, q4.aside (by simp; omega) _, only_new (only_trans ho g4) (by have := HR.out; simp; omega) _⟩
        case measure => simp [intOf]
    · have hkk : k = (nx q 3).1.toNat := by omega
      have hS : rdS q = stt q k := by unfold rdS; rw [hkk]
      have hd := stt_d q k
      generalize stt q k = P at hp hq hS hd
      have HS := Lib.hid hS
      have HD := Lib.hid hd
      clear hS hd hkk
      obtain ⟨pp0, pp1, pp2, pp3, pp4, ppf0, ppf1, ppf2, ppf3, ppf4⟩ := facts5' hp
      obtain ⟨rr0, rr1, rr2, rr3, rr4, rrf0, rrf1, rrf2, rrf3, rrf4⟩ := facts5' hr
      have hqe := hq.err
      by_cases he : P.2.2 = 0
      · have hne : (P.2.2 != 0) = false := by simpa using he
        have HE := Lib.hid he
        clear he
        go_wp2_with (fail)
        exact bodyPost_ret (v := .agg #[.int .u32 P.1.e, .int .i64 (nx q 3).1, .int .u32 P.1.a, .int .u32 P.1.b, .int .u32 P.1.c]) (by obtain ⟨z0, z1, z2, z3, z4, -⟩ := facts5' (five' hr (.int .u32 P.1.e) (.int .i64 (nx q 3).1) (.int .u32 P.1.a) (.int .u32 P.1.b) (.int .u32 P.1.c)); simp [results, Tryz.results31, go_sem, z0, z1, z2, z3, z4]) rfl ⟨by rw [← HD.out]; exact ret_tm (by unfold rdT; rw [HS.out, if_pos HE.out]), by rw [HS.out]; exact hq.five x4 _ _ _ _ _, only_five ho (by have := HR.out; omega) _ _ _ _ _⟩
      · have hne : (P.2.2 != 0) = true := by simpa using he
        have HE := Lib.hid he
        clear he
        go_wp2_with (fail)
        exact bodyPost_ret (v := .agg #[.int .u32 0, .int .i64 0, .int .u32 0, .int .u32 0, .int .u32 0]) (by obtain ⟨z0, z1, z2, z3, z4, -⟩ := facts5' (five' hr (.int .u32 0) (.int .i64 0) (.int .u32 0) (.int .u32 0) (.int .u32 0)); simp [results, Tryz.results31, go_sem, z0, z1, z2, z3, z4]) rfl ⟨(ret_tm (a := T0) (b := rdT q) (by unfold rdT; rw [HS.out, if_neg HE.out])), by rw [HS.out]; exact hq.five x4 _ _ _ _ _, only_five ho (by have := HR.out; omega) _ _ _ _ _⟩
end Go.Proofs.YtmepiogoofmbbaaGreatDoor.stamp
