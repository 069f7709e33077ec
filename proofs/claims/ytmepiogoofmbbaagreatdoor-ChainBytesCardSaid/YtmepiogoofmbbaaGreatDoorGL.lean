/-
  The contracts of strconv.FormatUint at base 10, and of the parts that it calls.
  The contract of watershedref04.Digits: a number in decimal digits.
  The contracts of stamp.Text and watershedref04.Text: a time in writing.
  The frame of the five cards: what the listed variables give the walks (Env), a start that fits, a law whose arguments are only read.
-/
import Derived.Test.YtmepiogoofmbbaaGreatDoorLay
import Derived.Test.YtmepiogoofmbbaaGreatDoorRows
import Derived.Lib.AppendIntMem
import Derived.Lib.Hide
import Derived.WalkKit
import Derived.Test.YtmepiogoofmbbaaGreatDoorGA
import Derived.Test.YtmepiogoofmbbaaGreatDoorGE
import Derived.Laws.OwnMore
import Derived.Deep.AppendLies
import Derived.Laws.AppendOwn
import Derived.ProofKit
import Derived.OpenShut
import Derived.LaidMore
import Derived.Lay
import Derived.Stop.Joined
import Derived.Stop.LaidErr
import Derived.Shelf.Vars
import Derived.Handed
namespace Go.Proofs.YtmepiogoofmbbaaGreatDoor.stamp
open Go.RowKit Go.Sort Go.Lib
open Go.Proofs.YtmepiogoofmbbaaGreatDoor.block

theorem small_any (i : Nat) (h : i < 100) (w : World) : Calls Tryz.prog 60 #[.int .i64 i] w fun e w' => e = .returned (.string ⟨(Lib.decDigits i).toArray⟩) ∧ w' = w := Any.internal_strconv_small Tryz.lays283 i h w
theorem numDigits_any (u : Nat) (h1 : 1 ≤ u) (h2 : u < 18446744073709551616) (w : World) (htab : Lib.TabIs Tryz.prog w "internal/strconv.uint64pow10" .u64 Lib.pow10Tab) :
    Calls Tryz.prog 61 #[.int .u64 u] w fun e w' => e = .returned (.int .i64 (Lib.nDigits u)) ∧ w' = w := Any.internal_strconv_numDigits Tryz.laysM284 u h1 h2 w htab
theorem format10_any (blk off cap : Nat) (u : Nat) (d : Array UInt8) (w : World) (hH : Holds (fun (b : UInt8) => Value.int .u8 (b.toNat : Int)) w blk off d) (hu : u < 10 ^ d.size) (hu64 : u < 18446744073709551616) (hsz : d.size < 4611686018427387904) :
    Calls Tryz.prog 62 #[.slice (some ⟨blk, off, none⟩) d.size cap, .int .u64 u] w fun e w' =>
      e = .returned (.tuple #[]) ∧ ∃ (n v' : Nat) (dk : Array UInt8), w' = (putRow (fun (b : UInt8) => Value.int .u8 (b.toNat : Int)) w blk off dk).drewN n ∧ FmtInv d.size u 0 v' dk := Any.internal_strconv_formatBase10 Tryz.lays285 blk off cap u d w hH hu hu64 hsz
theorem fmt_small (u : Nat) (hu : u < 100) (w : World) : Calls Tryz.prog 49 #[.int .u64 u, .int .i64 10] w fun e w' => e = .returned (.string ⟨(Lib.decDigits u).toArray⟩) ∧ Below w.heap.size w w' := by
  go_enter Tryz.func49, Tryz.ntmps49
  go_wp2_with (go_at_call 60; refine (small_any u hu _).mono ?_; rintro e w' ⟨rfl, rfl⟩)
  go_ret
  exact ⟨rfl, Below.refl _ _⟩
theorem fmt_great (u : Nat) (h100 : 100 ≤ u) (hu : u < 18446744073709551616) (w : World) (htab : Lib.TabIs Tryz.prog w "internal/strconv.uint64pow10" .u64 Lib.pow10Tab) :
    Calls Tryz.prog 49 #[.int .u64 u, .int .i64 10] w fun e w' => e = .returned (.string ⟨(Lib.decDigits u).toArray⟩) ∧ Below w.heap.size w w' := by
  have hnd20 : Lib.nDigits u ≤ 20 := by have := Lib.numDigits_eq u (by omega) hu; split at this <;> omega
  have hal : Tryz.prog.arrayLen 87 = 24 := by simp [Program.arrayLen, Tryz.underlying87]
  have hsl : ∀ W, (Instr.sliceAt 87 (.pointer (some ⟨w.heap.size, 0, none⟩)) none (some (.int .i64 (Lib.nDigits u : Int))) none).run Tryz.prog W = .ok (.slice (some ⟨w.heap.size, 0, none⟩) (Lib.nDigits u) 24) W := fun W => by
    rw [run_sliceAt_array_h W 87 ⟨w.heap.size, 0, none⟩ (by simp [Program.arrayLen, Program.elem, Tryz.underlying87]) .i64 (Lib.nDigits u : Int) (by omega) (by rw [hal]; omega)]
    go_simp
  have hH0 := Lib.holds_zero0 w 87 (Lib.nDigits u) (by omega)
  have hfmt := format10_any w.heap.size 0 24 u (Array.replicate (Lib.nDigits u) 0) (w.alloc (.cells Lib.zeros24 87)) hH0 (by rw [Array.size_replicate]; exact Lib.lt_pow_nDigits u) hu (by rw [Array.size_replicate]; omega)
  rw [Array.size_replicate] at hfmt
  have HH0 := Lib.hid hH0
  have HF := Lib.hid hfmt
  clear hH0 hfmt hal
  go_enter Tryz.func49, Tryz.ntmps49
  go_wp2_with (go_at_call 61; refine (numDigits_any u (by omega) hu _ (Lib.tabIs_alloc htab _)).mono ?_; rintro e w' ⟨rfl, rfl⟩)
  go_at_call 62
  refine HF.out.mono ?_
  rintro e w' ⟨rfl, k, v', dk, rfl, hF⟩
  have hcv : (convert 62 9 (.slice (some ⟨w.heap.size, 0, none⟩) (Lib.nDigits u) 24)).run Tryz.prog ((putRow (fun (b : UInt8) => Value.int .u8 (b.toNat : Int)) (w.alloc (.cells Lib.zeros24 87)) w.heap.size 0 dk).drewN k) = .ok (.string ⟨(Lib.decDigits u).toArray⟩) ((putRow (fun (b : UInt8) => Value.int .u8 (b.toNat : Int)) (w.alloc (.cells Lib.zeros24 87)) w.heap.size 0 dk).drewN k) := by
    have h := run_convert_bytes_back (P := Tryz.prog) ((putRow (fun (b : UInt8) => Value.int .u8 (b.toNat : Int)) (w.alloc (.cells Lib.zeros24 87)) w.heap.size 0 dk).drewN k) 62 9 5 ⟨w.heap.size, 0, none⟩ 24 (Lib.decDigits u) Tryz.underlying62 Tryz.underlying5 Tryz.underlying9 (fun j hj => by
      rw [Lib.row_is_numeral hF j hj, Lib.add_plain, World.cell?_drewN]
      exact cell?_putRow (fun (b : UInt8) => Value.int .u8 (b.toNat : Int)) _ w.heap.size 0 _ dk HH0.out (by rw [hF.size, Array.size_replicate]) j (by rw [hF.size]; rw [Lib.decDigits_length] at hj; exact hj))
    rw [Lib.decDigits_length] at h
    exact h
  go_wp2
  go_ret
  obtain ⟨os, eo⟩ := Lib.fin_at w (.cells Lib.zeros24 87) dk k 0
  exact ⟨rfl, by rw [eo]; exact Lib.below_grow _ w (Nat.le_refl _) k os⟩
theorem fmt_any (u : Nat) (hu : u < 18446744073709551616) (w : World) (htab : Lib.TabIs Tryz.prog w "internal/strconv.uint64pow10" .u64 Lib.pow10Tab) :
    Calls Tryz.prog 35 #[.int .u64 u, .int .i64 10] w fun e w' => e = .returned (.string ⟨(Lib.decDigits u).toArray⟩) ∧ Below w.heap.size w w' := by
  have h : Calls Tryz.prog 49 #[.int .u64 u, .int .i64 10] w fun e w' => e = .returned (.string ⟨(Lib.decDigits u).toArray⟩) ∧ Below w.heap.size w w' := by
    by_cases h : u < 100
    · exact fmt_small u h w
    · exact fmt_great u (by omega) hu w htab
  have H := Lib.hid h
  clear h htab
  go_enter Tryz.func35, Tryz.ntmps35
  go_wp2_with fail
  refine H.out.mono ?_
  rintro e w1 ⟨rfl, b1⟩
  go_wp2
  go_ret
  exact ⟨rfl, b1⟩
end Go.Proofs.YtmepiogoofmbbaaGreatDoor.stamp
namespace Go.Proofs.YtmepiogoofmbbaaGreatDoor.stamp
open Go.ChangeShapes Go.WideShapes Go.RowKit
open Go.Proofs.YtmepiogoofmbbaaGreatDoor.block Go.Proofs.YtmepiogoofmbbaaGreatDoor.code

theorem dig_one (m : Nat) (h : m < 10) (W : World) : (convert 62 9 (.slice (some ⟨W.heap.size, 0, none⟩) 1 1)).run Tryz.prog (W.alloc (.cells #[.int .u8 (48 + (m : Int))] 5)) = .ok (.string ⟨#[UInt8.ofNat (48 + m)]⟩) (W.alloc (.cells #[.int .u8 (48 + (m : Int))] 5)) := by
  have hc : Value.int .u8 (48 + (m : Int)) = cell8 (UInt8.ofNat (48 + m)) := by
    simp [cell8]
    omega
  have ho := World.ownsRow_lit (base := 0) (e := 5) (size := 1) W #[Value.int .u8 (48 + (m : Int))] 1 (Nat.zero_le _) (by unfold maxLen; omega) rfl
  rw [hc] at ho ⊢
  exact string_of_own (l := [UInt8.ofNat (48 + m)]) Tryz.underlying62 Tryz.underlying5 Tryz.underlying9 ho
theorem nDigits_le : ∀ (k u : Nat), u < 10 ^ (k + 1) → Lib.nDigits u ≤ k + 1
  | 0, u, h => by rw [Lib.nDigits_small (by simpa using h)]; omega
  | k + 1, u, h => by
    by_cases hu : u < 10
    · rw [Lib.nDigits_small hu]; omega
    · rw [Lib.nDigits_big hu]
      have := nDigits_le k (u / 10) (by rw [Nat.pow_succ] at h; omega)
      omega
theorem str_front (c : Nat) (l : List UInt8) : ({ data := #[48 + UInt8.ofNat c] } : ByteArray) ++ { data := l.toArray } = ⟨(UInt8.ofNat (48 + c) :: l).toArray⟩ := ByteArray.ext (by simp)
set_option maxRecDepth 100000 in
set_option maxHeartbeats 1000000 in
theorem digits_any (u : Nat) (hu : u < 4294967296) (w : World) : Calls Tryz.prog 42 #[.int .u64 u] w fun e w' => e = .returned (.string ⟨(Lib.decDigits u).toArray⟩) ∧ Below w.heap.size w w' := by
  have hn10 : Lib.nDigits u ≤ 10 := nDigits_le 9 u (by omega)
  go_enter Tryz.func42, Tryz.ntmps42
  go_wp2
  go_loopw [0, 3, 4] (fun v s i wr => ∃ (k m : Nat) (l : List UInt8), i = .int .i64 k ∧ v = .int .u64 m ∧ s = .string ⟨l.toArray⟩ ∧ m < 4294967296 ∧ k + Lib.nDigits m = Lib.nDigits u ∧ l.length = k ∧ Lib.decDigits u = Lib.decDigits m ++ l ∧ Below w.heap.size w wr) (fun _ _ i _ => (20 - intOf i).toNat)
  case atStart => exact ⟨0, u, [], rfl, rfl, rfl, hu, by omega, rfl, by simp, Below.refl _ _⟩
  case round =>
    obtain ⟨k, m, l, rfl, rfl, rfl, hm, hk, hl, hx, hb⟩ := hrel
    have HX := Lib.hid hx
    have HK := Lib.hid hk
    have HL := Lib.hid hl
    have hp := Lib.nDigits_pos m
    have hk20 : k < 20 := by omega
    have hll : l.length ≤ 20 := by omega
    have hd : m % 10 < 10 := Nat.mod_lt _ (by omega)
    have hcv := dig_one (m % 10) hd wr
    rw [show ((m % 10 : Nat) : Int) = (m : Int) % 10 from by omega] at hcv
    clear hx hk hl hp
    by_cases h10 : m < 10
    · have hz : ((m : Int) / 10 == 0) = true := by simp; omega
      have hm10 : m % 10 = m := Nat.mod_eq_of_lt h10
      go_wp2
      go_ret
      refine ⟨?_, hb.alloc hb.size _⟩
      rw [str_front, HX.out, Lib.decDigits_one h10]
      rfl
    · have hz : ((m : Int) / 10 == 0) = false := by simp; omega
      have hx2 : Lib.decDigits u = Lib.decDigits (m / 10) ++ (UInt8.ofNat (48 + m % 10) :: l) := by
        rw [HX.out, Lib.decDigits, dif_neg h10]; simp
      have hk2 := HK.out
      rw [Lib.nDigits_big h10] at hk2
      have HX2 := Lib.hid hx2
      have HK2 := Lib.hid hk2
      clear hx2 hk2
      go_wp2
      go_roundw
      case rel => exact ⟨k + 1, m / 10, UInt8.ofNat (48 + m % 10) :: l, by go_num, by go_num, by rw [str_front], by omega, by have := HK2.out; omega, by have := HL.out; simp [this], HX2.out, hb.alloc hb.size _⟩
      case measure => simp [intOf]; omega
end Go.Proofs.YtmepiogoofmbbaaGreatDoor.stamp
namespace Go.Proofs.YtmepiogoofmbbaaGreatDoor.stamp
open Go.ChangeShapes Go.WideShapes Go.ChangeAt Go.RowKit
open Go.Proofs.YtmepiogoofmbbaaGreatDoor.tm Go.Proofs.YtmepiogoofmbbaaGreatDoor.opened Go.Proofs.YtmepiogoofmbbaaGreatDoor.block Go.Proofs.YtmepiogoofmbbaaGreatDoor.code

/-- What the library's variables hold, where the program reads them. -/
structure Env (w : World) : Prop where
  tab : Lib.TabIs Tryz.prog w "internal/strconv.uint64pow10" .u64 Lib.pow10Tab
theorem var_below {P : Program} {w w' : World} {name : String} {cs : Array Value} (h : w.var? P name = some cs) (hb : Below w.heap.size w w') : w'.var? P name = some cs := by
  unfold World.var? at *
  cases hg : P.globalNamed name with
  | none => simp [hg] at h
  | some g =>
    simp only [hg, Option.bind_some] at h ⊢
    have hlt : g < w.heap.size := by
      rcases Nat.lt_or_ge g w.heap.size with h' | h'
      · exact h'
      · rw [Array.getElem?_eq_none h'] at h
        simp at h
    rw [hb.block g hlt]
    exact h
theorem Env.below {w w' : World} (h : Env w) (hb : Below w.heap.size w w') : Env w' := ⟨var_below h.tab hb⟩
/-- The digits of a number. -/
def decI (x : Int) : List UInt8 := Lib.decDigits x.toNat
theorem len_decI {x : Int} (h : x ≤ 4294967295) : (decI x).length ≤ 10 := by
  unfold decI
  rw [Lib.decDigits_length]
  exact nDigits_le 9 _ (by omega)
def txtL (t : Tm) : List UInt8 := Lib.join ((cnt t).map decI) [46]
def txtV (t : Tm) : List UInt8 := if chk t = 0 then txtL t else []
theorem fmt_i (a : Int) (h0 : 0 ≤ a) (h1 : a ≤ 4294967295) (w : World) (h : Env w) : Calls Tryz.prog 35 #[.int .u64 a, .int .i64 10] w fun e w' => e = .returned (.string ⟨(decI a).toArray⟩) ∧ Below w.heap.size w w' := by
  have k := fmt_any a.toNat (by omega) w h.tab
  rwa [show ((a.toNat : Nat) : Int) = a by omega] at k
theorem digits_i (a : Int) (h0 : 0 ≤ a) (h1 : a ≤ 4294967295) (w : World) : Calls Tryz.prog 42 #[.int .u64 a] w fun e w' => e = .returned (.string ⟨(decI a).toArray⟩) ∧ Below w.heap.size w w' := by
  have k := digits_any a.toNat (by omega) w
  rwa [show ((a.toNat : Nat) : Int) = a by omega] at k
theorem join_any (bk c : Nat) (xs : List (List UInt8)) (w : World) (hcells : ∀ (j : Nat) x, xs[j]? = some x → w.cell? ⟨bk, j, none⟩ = some (.string ⟨x.toArray⟩)) (hbk : bk < w.heap.size) (hN : xs.length ≤ 100) (hcap : xs.length ≤ c) (hlen : (Lib.join xs [46]).length ≤ 140737488355328) :
    Calls Tryz.prog 19 #[.slice (some ⟨bk, 0, none⟩) xs.length c, .string ⟨#[46]⟩] w fun e w' => e = .returned (.string ⟨(Lib.join xs [46]).toArray⟩) ∧ Below w.heap.size w w' := by
  have hm : (xs.map fun x => (⟨x.toArray⟩ : ByteArray)).map (·.data.toList) = xs := by
    rw [List.map_map]
    have : ((fun x : ByteArray => x.data.toList) ∘ fun x : List UInt8 => (⟨x.toArray⟩ : ByteArray)) = id := by funext x; simp
    rw [this, List.map_id]
  have k := Any.strings_Join Tryz.lays156 Tryz.Builder_Extra_156 bk 0 c (xs.map fun x => (⟨x.toArray⟩ : ByteArray)) ⟨#[46]⟩ w (by
    intro j x hx
    rw [List.getElem?_map] at hx
    obtain ⟨y, hy, rfl⟩ := Option.map_eq_some_iff.1 hx
    rw [Nat.zero_add]
    exact hcells j y hy) hbk (by simp; omega) (by simpa using hcap) (by rw [hm]; exact hlen)
  rw [hm, List.length_map] at k
  exact k
theorem info9 : (Tryz.prog.info? 9).map (fun i => (i.zero, i.size, i.bytes)) = some (some (.string ByteArray.empty), 1, 16) := by kernel_rfl
def strC (x : List UInt8) : Value := .string ⟨x.toArray⟩
theorem keep_row {w w' : World} {base : Nat} {e : TypeId} {size : Nat} {v : Value} {n : Nat} {xs : List Value} (h : w.ownsRow base e size v n xs) (b : Below w.heap.size w w') : w'.ownsRow base e size v n xs :=
  h.kept (only_of_below b none) (by cases v.ownBlock <;> simp)
theorem oneS (x : ByteArray) : ∀ u ∈ [Value.string x], u.oneCell' = true := by
  intro u hu; simp at hu; subst hu; rfl
theorem cnt_pos (t : Tm) : 0 < (cnt t).length := by
  unfold cnt
  split
  · simp
  · split
    · simp
    · split <;> simp
theorem len_join : ∀ (l : List (List UInt8)), (∀ x ∈ l, x.length ≤ 10) → (Lib.join l [46]).length ≤ 11 * l.length
  | [], _ => by simp [Lib.join_nil]
  | x :: r, h => by
    rw [Lib.join_cons]
    have h0 := h x (by simp)
    have h1 : (Lib.joinTail [46] r).length ≤ 11 * r.length := by
      have h' : ∀ y ∈ r, y.length ≤ 10 := fun y hy => h y (by simp [hy])
      clear h h0
      induction r with
      | nil => simp [Lib.joinTail]
      | cons y r ih =>
        have h2 := h' y (by simp)
        have h3 := ih (fun z hz => h' z (by simp [hz]))
        simp [Lib.joinTail] at h3 ⊢
        omega
    simp
    omega
theorem len_txt {t : Tm} (i : t.In) (h0 : 0 ≤ t.d) (h1 : t.d ≤ 3) : (txtL t).length ≤ 44 := by
  have h2 := len_join ((cnt t).map decI) (by
    intro x hx
    obtain ⟨y, hy, rfl⟩ := List.mem_map.1 hx
    exact len_decI (cnt_in i y hy).2)
  have h3 := cnt_len h0 h1
  rw [List.length_map] at h2
  unfold txtL
  omega
theorem text_bad (t : Tm) (i : t.In) (h : chk t ≠ 0) (w : World) : Calls Tryz.prog 18 #[.agg #[.int .u32 t.e, .int .i64 t.d, .int .u32 t.a, .int .u32 t.b, .int .u32 t.c]] w fun e w' => e = .returned (.tuple #[.string ⟨#[]⟩, .int .i64 (chk t)]) ∧ Below w.heap.size w w' := by
  generalize hE : chk t = E at h
  have h' : (E != 0) = true := by simpa using h
  clear h
  have HE := Lib.hid hE
  clear hE
  go_enter Tryz.func18, Tryz.ntmps18
  go_wp2_with fail
  refine (check_is _ i HE.out _).mono ?_
  rintro e w1 ⟨rfl, b1⟩
  go_wp2
  go_ret2
  exact ⟨rfl, over1 b1⟩
theorem textR_bad (t : Tm) (i : t.In) (h : chk t ≠ 0) (w : World) : Calls Tryz.prog 21 #[.agg #[.int .u32 t.e, .int .i64 t.d, .int .u32 t.a, .int .u32 t.b, .int .u32 t.c]] w fun e w' => e = .returned (.tuple #[.string ⟨#[]⟩, .int .i64 (chk t)]) ∧ Below w.heap.size w w' := by
  generalize hE : chk t = E at h
  have h' : (E != 0) = true := by simpa using h
  clear h
  have HE := Lib.hid hE
  clear hE
  go_enter Tryz.func21, Tryz.ntmps21
  go_wp2_with fail
  refine (checkR_is _ i HE.out _).mono ?_
  rintro e w1 ⟨rfl, b1⟩
  go_wp2
  go_ret2
  exact ⟨rfl, over1 b1⟩
set_option maxRecDepth 100000 in
set_option maxHeartbeats 2000000 in
theorem text_good (t : Tm) (i : t.In) (h : chk t = 0) (w : World) (hE : Env w) : Calls Tryz.prog 18 #[.agg #[.int .u32 t.e, .int .i64 t.d, .int .u32 t.a, .int .u32 t.b, .int .u32 t.c]] w fun e w' => e = .returned (.tuple #[.string ⟨(txtL t).toArray⟩, .int .i64 0]) ∧ Below w.heap.size w w' := by
  obtain ⟨i0, hi, hz0, hz1, hz2⟩ := info_parts info9
  obtain ⟨z0, z1, -⟩ := chk_zero h
  have HE := Lib.hid h
  clear h
  have hcl := cnt_len z0 z1
  have HI := Lib.hid (cnt_in i)
  have HC := Lib.hid (fun W => counts_any t z0 z1 W)
  have HJ := Lib.hid (len_txt i z0 z1)
  unfold txtL at HJ
  unfold txtL
  have hpos := cnt_pos t
  have HV := Lib.hid hE
  clear hE
  generalize hl : cnt t = l at hcl HI HC HJ hpos
  clear hl
  go_enter Tryz.func18, Tryz.ntmps18
  go_wp2_with fail
  refine (check_is _ i HE.out _).mono ?_
  rintro e w1 ⟨rfl, b1⟩
  clear i
  have h1 : Whole w1 w.heap.size 49 #[.int .u32 t.e, .int .i64 t.d, .int .u32 t.a, .int .u32 t.b, .int .u32 t.c] := (Whole.fresh w 49 _).below b1 (by simp)
  have v1 := over1 b1
  clear b1
  obtain ⟨aa0, aa1, aa2, aa3, aa4, aaf0, aaf1, aaf2, aaf3, aaf4⟩ := facts5' h1
  go_wp2_with fail
  refine (HC.out _).mono ?_
  rintro e w3 ⟨b, cap, rfl, hown, b3⟩
  have v3 := v1.trans (b3.mono v1.size)
  clear b3 aa0 aa1 aa2 aa3 aa4 aaf0 aaf1 aaf2 aaf3 aaf4 h1 v1 HC
  go_wp2_with fail
  go_loopw [5, 16] (fun s i wr => ∃ k : Nat, k ≤ l.length ∧ i = .int .i64 k ∧ wr.ownsRow w3.heap.size 9 1 s k (((l.map decI).take k).map strC) ∧ Below w3.heap.size w3 wr) (fun _ i _ => l.length - (intOf i).toNat)
  case atStart => exact ⟨0, by omega, rfl, by simpa using World.ownsRow_nil _ _ _ _, Below.refl _ _⟩
  case round =>
    obtain ⟨k, hk, rfl, hs, hb⟩ := hrel
    by_cases hkl : k < l.length
    · have hx := HI.out l[k] (List.getElem_mem hkl)
      have hc : wr.cell? ⟨b, k, none⟩ = some (.int .u32 l[k]) := by
        have h4 := hown.cellAt k (by omega)
        rw [List.getElem?_map, List.getElem?_eq_getElem hkl] at h4
        exact (hb.cell (p := ⟨b, k, none⟩) (World.block_lt_of_cell? w3 _ h4)).trans h4
      obtain ⟨x0, x1⟩ := hx
      have hsn : (((l.map decI).take (k + 1)).map strC) = (((l.map decI).take k).map strC) ++ [strC (decI l[k])] := by
        rw [List.take_succ_eq_append_getElem (by simpa using hkl)]; simp
      have HSN := Lib.hid hsn
      clear hsn
      have hen : Env wr := (HV.out.below v3).below hb
      generalize l[k] = x at hc x0 x1 HSN
      go_wp2_with fail
      refine (fmt_i _ (by omega) (by omega) _ hen).mono ?_
      rintro e w4 ⟨rfl, b4⟩
      clear hen
      have hs4 := keep_row hs b4
      clear hs
      go_wp2_with (at_builtin; refine wpList_append_own _ rfl _ _ 40 rfl w3.heap.size 9 i0 (.string ByteArray.empty) 1 16 Tryz.underlying40 hi hz0 hz1 hz2 rfl (by decide) _ _ _ rfl (hs4.alloc _) _ 1 1 [_] rfl rfl (cell_one_new _ _ _) (oneS _) (by unfold maxLen; omega) (by omega) (by have := hb.size; have := b4.size; simp; omega) ?_)
      intro v' w5 hown5 hgrow5 _
      have hb5 : Below w3.heap.size w3 w5 := ((hb.trans (b4.mono hb.size)).alloc (by have := hb.size; have := b4.size; omega) _).grown hgrow5 (by have := hb.size; have := b4.size; simp; omega) (fun q hq => (hs4.lt q hq).1)
      clear hgrow5 hs4 hb b4
      go_wp2
      go_roundw
      case rel => exact ⟨k + 1, by omega, by go_num, by rw [HSN.out]; simp only [List.map_take, List.map_map]; exact hown5, hb5⟩
      case measure => simp [intOf]; omega
    · have hkk : k = l.length := by omega
      subst hkk
      rw [List.take_of_length_le (by simp)] at hs
      obtain ⟨bk, cp, hv, hbase, hlt⟩ := hs.form hpos
      subst hv
      have hcells : ∀ (j : Nat) x, (l.map decI)[j]? = some x → wr.cell? ⟨bk, j, none⟩ = some (.string ⟨x.toArray⟩) := by
        intro j x hx
        have hjl := (List.getElem?_eq_some_iff.1 hx).1
        rw [List.length_map] at hjl
        have h4 := hs.cellAt j (by omega)
        rw [List.getElem?_map, hx] at h4
        exact h4
      have hcp : l.length ≤ cp := by
        rcases hs.2 with ⟨h', _⟩ | ⟨g', cap', cur, h', _, _, hc1, _⟩
        · simp at h'
        · simp only [Value.slice.injEq, Option.some.injEq, true_and] at h'
          omega
      have HK := Lib.hid (join_any bk cp (l.map decI) wr hcells hlt (by simp; omega) (by simpa using hcp) (by have := HJ.out; omega))
      rw [List.length_map] at HK
      clear hs hcells
      go_wp2_with fail
      refine HK.out.mono ?_
      rintro e w6 ⟨rfl, b6⟩
      go_wp2
      go_ret2
      exact ⟨rfl, (v3.trans (hb.mono v3.size)).trans (b6.mono (Nat.le_trans v3.size hb.size))⟩
/-- A time's front in writing. -/
def txtp (t : Tm) : Nat → List UInt8
  | 0 => decI t.e
  | 1 => decI t.e ++ [46] ++ decI t.a
  | 2 => decI t.e ++ [46] ++ decI t.a ++ [46] ++ decI t.b
  | _ => decI t.e ++ [46] ++ decI t.a ++ [46] ++ decI t.b ++ [46] ++ decI t.c
theorem txtp_all {t : Tm} (h0 : 0 ≤ t.d) (h1 : t.d ≤ 3) : txtp t t.d.toNat = txtL t := by
  obtain ⟨e, d, a, b, c⟩ := t
  dsimp only at *
  have hk : d = 0 ∨ d = 1 ∨ d = 2 ∨ d = 3 := by omega
  rcases hk with rfl | rfl | rfl | rfl <;> simp [txtp, txtL, cnt, Lib.join_cons, Lib.joinTail]
theorem len_txtp {t : Tm} (i : t.In) (k : Nat) : (txtp t k).length ≤ 50 := by
  have := len_decI (x := t.e) (by have := i.e1; omega); have := len_decI (x := t.a) (by have := i.a1; omega); have := len_decI (x := t.b) (by have := i.b1; omega); have := len_decI (x := t.c) (by have := i.c1; omega)
  unfold txtp
  split <;> simp <;> omega
theorem str_dot (l m : List UInt8) : (⟨l.toArray⟩ : ByteArray) ++ ⟨#[46]⟩ ++ ⟨m.toArray⟩ = ⟨(l ++ [46] ++ m).toArray⟩ := ByteArray.ext (by simp)
set_option maxRecDepth 100000 in
set_option maxHeartbeats 2000000 in
theorem textR_good (t : Tm) (i : t.In) (h : chk t = 0) (w : World) : Calls Tryz.prog 21 #[.agg #[.int .u32 t.e, .int .i64 t.d, .int .u32 t.a, .int .u32 t.b, .int .u32 t.c]] w fun e w' => e = .returned (.tuple #[.string ⟨(txtL t).toArray⟩, .int .i64 0]) ∧ Below w.heap.size w w' := by
  obtain ⟨z0, z1, -⟩ := chk_zero h
  have HE := Lib.hid h
  clear h
  obtain ⟨i0, i1, -, -, j0, j1, k0, k1, l0, l1⟩ := id i
  have HLP := Lib.hid (len_txtp i)
  go_enter Tryz.func21, Tryz.ntmps21
  go_wp2_with fail
  refine (checkR_is _ i HE.out _).mono ?_
  rintro e w1 ⟨rfl, b1⟩
  clear i
  have h1 : Whole w1 w.heap.size 49 #[.int .u32 t.e, .int .i64 t.d, .int .u32 t.a, .int .u32 t.b, .int .u32 t.c] := (Whole.fresh w 49 _).below b1 (by simp)
  have v1 := over1 b1
  clear b1
  generalize hg : w.heap.size = g at h1 v1 ⊢
  have HG := Lib.hid hg
  clear hg
  obtain ⟨aa0, aa1, aa2, aa3, aa4, aaf0, aaf1, aaf2, aaf3, aaf4⟩ := facts5' h1
  go_wp2_with fail
  refine (digits_i t.e (by omega) (by omega) _).mono ?_
  rintro e w2 ⟨rfl, b2⟩
  clear aa0 aa1 aa2 aa3 aa4 aaf0 aaf1 aaf2 aaf3 aaf4
  have h2 := h1.below b2 h1.inside
  have v2 := v1.trans (b2.mono (Nat.le_of_lt h1.inside))
  clear h1 v1 b2
  go_wp2_with fail
  go_loopw [5, 6] (fun s i wr => ∃ k : Nat, (k : Int) ≤ t.d ∧ i = .int .i64 k ∧ s = .string ⟨(txtp t k).toArray⟩ ∧ Whole wr g 49 #[.int .u32 t.e, .int .i64 t.d, .int .u32 t.a, .int .u32 t.b, .int .u32 t.c] ∧ Below g w wr) (fun _ i _ => 3 - (intOf i).toNat)
  case atStart => exact ⟨0, z0, rfl, rfl, h2, v2⟩
  case round =>
    clear h2 v2
    obtain ⟨k, hk, rfl, rfl, ht, hb⟩ := hrel
    have hlen := HLP.out k
    by_cases hkd : (k : Int) < t.d
    · obtain rfl | rfl | rfl : k = 0 ∨ k = 1 ∨ k = 2 := by omega
      · obtain ⟨aa0, aa1, aa2, aa3, aa4, aaf0, aaf1, aaf2, aaf3, aaf4⟩ := facts5' ht
        have hla := len_decI (x := t.a) (by omega)
        go_wp2_with fail
        refine (digits_i t.a (by omega) (by omega) _).mono ?_
        rintro e w4 ⟨rfl, b4⟩
        clear aa0 aa1 aa2 aa3 aa4 aaf0 aaf1 aaf2 aaf3 aaf4
        have ht4 := ht.below b4 ht.inside
        go_wp2
        go_roundw
        case rel => exact ⟨1, by omega, by go_num, by rw [str_dot]; simp [txtp], ht4, hb.trans (b4.mono (Nat.le_of_lt ht.inside))⟩
        case measure => simp [intOf]
      · obtain ⟨aa0, aa1, aa2, aa3, aa4, aaf0, aaf1, aaf2, aaf3, aaf4⟩ := facts5' ht
        have hla := len_decI (x := t.b) (by omega)
        go_wp2_with fail
        refine (digits_i t.b (by omega) (by omega) _).mono ?_
        rintro e w4 ⟨rfl, b4⟩
        clear aa0 aa1 aa2 aa3 aa4 aaf0 aaf1 aaf2 aaf3 aaf4
        have ht4 := ht.below b4 ht.inside
        go_wp2
        go_roundw
        case rel => exact ⟨2, by omega, by go_num, by rw [str_dot]; simp [txtp], ht4, hb.trans (b4.mono (Nat.le_of_lt ht.inside))⟩
        case measure => simp [intOf]
      · obtain ⟨aa0, aa1, aa2, aa3, aa4, aaf0, aaf1, aaf2, aaf3, aaf4⟩ := facts5' ht
        have hla := len_decI (x := t.c) (by omega)
        go_wp2_with fail
        refine (digits_i t.c (by omega) (by omega) _).mono ?_
        rintro e w4 ⟨rfl, b4⟩
        clear aa0 aa1 aa2 aa3 aa4 aaf0 aaf1 aaf2 aaf3 aaf4
        have ht4 := ht.below b4 ht.inside
        go_wp2
        go_roundw
        case rel => exact ⟨3, by omega, by go_num, by rw [str_dot]; simp [txtp], ht4, hb.trans (b4.mono (Nat.le_of_lt ht.inside))⟩
        case measure => simp [intOf]
    · have hkk : k = t.d.toNat := by omega
      have HK := Lib.hid hkk
      clear hkk
      obtain ⟨aa0, aa1, aa2, aa3, aa4, aaf0, aaf1, aaf2, aaf3, aaf4⟩ := facts5' ht
      go_wp2
      go_ret2
      exact ⟨str_ret2 (by rw [HK.out, txtp_all z0 z1]), by have := HG.out; subst this; exact hb⟩
theorem text_any (t : Tm) (i : t.In) (w : World) (hE : Env w) : Calls Tryz.prog 18 #[.agg #[.int .u32 t.e, .int .i64 t.d, .int .u32 t.a, .int .u32 t.b, .int .u32 t.c]] w fun e w' => e = .returned (.tuple #[.string ⟨(txtV t).toArray⟩, .int .i64 (chk t)]) ∧ Below w.heap.size w w' := by
  by_cases h : chk t = 0
  · rw [show txtV t = txtL t by simp [txtV, h], h]
    exact text_good t i h w hE
  · rw [show txtV t = [] by simp [txtV, h]]
    exact text_bad t i h w
theorem textR_any (t : Tm) (i : t.In) (w : World) : Calls Tryz.prog 21 #[.agg #[.int .u32 t.e, .int .i64 t.d, .int .u32 t.a, .int .u32 t.b, .int .u32 t.c]] w fun e w' => e = .returned (.tuple #[.string ⟨(txtV t).toArray⟩, .int .i64 (chk t)]) ∧ Below w.heap.size w w' := by
  by_cases h : chk t = 0
  · rw [show txtV t = txtL t by simp [txtV, h], h]
    exact textR_good t i h w
  · rw [show txtV t = [] by simp [txtV, h]]
    exact textR_bad t i h w
end Go.Proofs.YtmepiogoofmbbaaGreatDoor.stamp
namespace Go.Proofs.YtmepiogoofmbbaaGreatDoor.stamp
open Go.ChangeShapes Go.WideShapes Go.ChangeAt Go.RowKit
open Go.Proofs.YtmepiogoofmbbaaGreatDoor.opened

/-- The listed variables, in the rows' order. -/
noncomputable abbrev laid7 : List (String × DataW Unit) := Rows.chainBytesRow.laid
theorem gTab : Tryz.prog.globalNamed "internal/strconv.uint64pow10" = some 0 := by kernel_rfl
theorem gTabT : (Tryz.prog.globals[0]?).map (·.type) = some 103 := by kernel_rfl
set_option maxRecDepth 100000 in
theorem env_of {W : World} (hL : laidMetH Tryz.prog laid7 W) : Env W := by
  rw [MakeChecks.laidMetH_plain _ _ _ (by kernel_rfl)] at hL
  exact ⟨Lib.tabIs_of_head gTab gTabT Tryz.underlying103 Tryz.underlying33 (by kernel_rfl) (by kernel_rfl) hL.tail.tail⟩

/-! ### One start that fits -/
noncomputable def start (os : Os) : World := World.laidAll Tryz.prog os laid7
set_option maxRecDepth 100000 in
theorem start_met (os : Os) (args : Array Value) : laidMetH Tryz.prog laid7 ((start os).forCall (fun _ _ => 0) ⟨#[], args, []⟩).memory := by
  rw [MakeChecks.laidMetH_plain _ _ _ (by kernel_rfl)]
  exact laidMet_laidAll _ (by kernel_rfl) (by kernel_rfl)

theorem own : ownKnob Tryz.prog.godebug = none := by kernel_rfl
theorem laidOut : laidOutB Tryz.prog = true := by kernel_rfl
set_option maxRecDepth 100000 in
/-- THE FRAME: a law over arguments that are only read, where the listed variables read as laid. -/
theorem liftL {os : Os} {f : FuncId} {fn : Func} {s : ChangeSpec} {H : Type} {enc : TypeId × Value → H} {ts : List TypeId} {dom : List PathCond} {l : List (String × DataW Unit)} (hl7 : l = laid7)
    (started : os.Started) (noInit : Tryz.prog.inits.idxOf? f = none) (hfn : Tryz.prog.funcs[f]? = some fn)
    (hts : fn.params.toList = ts) (hrB : (ts.all fun t => Tryz.prog.readableRec t && decide (t < Tryz.prog.types.size)) = true)
    (hres : fn.resultTypes = #[4]) (hv : s.vars = [])
    (hspec : ∀ ds : List (DataW H), ds.length = ts.length → s.fn H (ds ++ []) = { results := [.lit (.bool true)], args := ds })
    (witness : ∃ (w : World) (tape : Tape) (i : Input), w.os = os ∧ (w.forCall tape i).Shaped Tryz.prog ∧ i.vars = [] ∧ Input.okWide Tryz.prog (w.forCall tape i) .any w.heap.size f i ∧
      ((s.pre enc Tryz.prog fn dom false (w.forCall tape i).memory i.args ∧ laidMetH Tryz.prog l (w.forCall tape i).memory) ∧ sizedMet enc Tryz.prog fn (OpenSpec.ofChange s) false (w.forCall tape i).memory i.args) ∧ ({} : Assume).holds Tryz.prog (lone (Frame.enter Tryz.prog f i.args .normal) [] (w.forCall tape i)))
    (walk : ∀ (W : World) (args : Array Value), Env W → Fed Tryz.prog W ts args → Calls Tryz.prog f args W fun e W' => e = .returned (.bool true) ∧ Below W.heap.size W W') :
    ReturnsInHanded {} Tryz.checked os f .any (fun w args => (s.pre enc Tryz.prog fn dom false w args ∧ laidMetH Tryz.prog l w) ∧ sizedMet enc Tryz.prog fn (OpenSpec.ofChange s) false w args) (s.post enc Tryz.prog fn false true false false) := by
  subst hl7
  have hr : ∀ t ∈ ts, Tryz.prog.readableRec t = true ∧ t < Tryz.prog.types.size := fun t ht => by
    have := List.all_eq_true.1 hrB t ht
    simpa using this
  refine returnsInHanded_of_calls own started noInit witness ?_
  intro w tape i _ hsh _ hok hpre hholds
  obtain ⟨_, _, _, fn', hfn', _, _, _, _, hval⟩ := hok
  have e : fn' = fn := Option.some.inj (hfn'.symm.trans hfn)
  subst e
  obtain ⟨⟨⟨ds, gs, before, hw, hc⟩, hx⟩, hz⟩ := hpre
  have hW := DataW.Whole.of_heap (w' := w.forCall tape i) (by rfl) hw
  have hsz := hz.weights hw
  have hL : laidMetH Tryz.prog laid7 (w.forCall tape i) := hx.of_heap (by rfl)
  have hE := env_of hL
  clear hw hz hx hL hsh
  generalize w.forCall tape i = W at *
  generalize i.args = args at *
  generalize w.heap.size = base at *
  have hW' := hW
  obtain ⟨p, q, hA, hV, rfl, _, _⟩ := hW
  rw [hv] at hV
  obtain ⟨rfl, rfl⟩ := trodVars_none hV
  have hA' := hA
  rw [hts] at hA'
  obtain ⟨n1, n2, n3⟩ := trodAll_at hA'
  have hvt : (OpenSpec.ofChange s).bare.plain.varTypes Tryz.prog = [] := by
    show s.plain.varTypes Tryz.prog = []
    simp [ChangeSpec.plain, DataSpec.varTypes, hv]
  rw [hts, hvt, List.append_nil, List.append_nil] at hsz
  refine (walk W args hE ⟨by simpa using n1, fun j t v hj hjv => ?_⟩).mono fun e W' ⟨he, bel⟩ => ?_
  · have hjv' : args.toList[j]? = some v := by simpa using hjv
    obtain ⟨d, pl, hd, fuel, hf⟩ := n3 j t v hj hjv'
    refine ⟨⟨base, hval j t v (by rw [← Array.getElem?_toList, hts]; exact hj) hjv⟩, fun hO => hO enc W fuel _ _ hf (fun k hk => ?_)⟩
    have := List.all_eq_true.1 hsz _ (DataW.weights_mem_each hj hd k hk)
    simpa using this
  · subst he
    refine ChangeSpec.post_blind (v := .bool true) ?_
    refine ⟨ds, [], _, [], p, [], hW', ?_, ?_, ?_, bel.frame _, fun h => by cases h⟩
    · rw [hspec ds n2, hres]
      exact trodAll_mk1 (shut_bool Tryz.underlying4 _)
    · rw [hspec ds n2]
      have h3 := trodAll_below laidOut bel hr hA'
      rw [hts]
      exact h3
    · rw [hspec ds n2, hv]
      rfl
end Go.Proofs.YtmepiogoofmbbaaGreatDoor.stamp
