/-
  What a kind that keeps makes of values: slices.Min, slices.Max, oper.total.
-/
import Derived.Test.YtpbdfiddgbkkmaaDoorOon2
namespace Go.Proofs.YtpbdfiddgbkkmaaDoor.oper
open Go.ChangeShapes Go.WideShapes Go.ChangeAt Go.RowKit
open Go.Proofs.YtpbdfiddgbkkmaaDoor.tm Go.Proofs.YtpbdfiddgbkkmaaDoor.opened Go.Proofs.YtpbdfiddgbkkmaaDoor.block Go.Proofs.YtpbdfiddgbkkmaaDoor.region Go.Proofs.YtpbdfiddgbkkmaaDoor.data

def cI (z : Int) : List Value := [.int .i64 z]
theorem cellsI : Cells 1 cI := ⟨fun _ => rfl, fun x v hv => by
  simp [cI] at hv
  subst hv
  rfl⟩
abbrev Li (w : World) (A : Option Addr) (L : List Int) : Prop := Lg 1 cI w A L
theorem at_i {w : World} {A : Option Addr} {M : List Int} (h : Li w A M) {k : Nat} {z : Int} (hk : M[k]? = some z) :
    ∃ b off, A = some ⟨b, off, none⟩ ∧ b < w.heap.size ∧ w.cell? ⟨b, off + k, none⟩ = some (.int .i64 z) := by
  obtain ⟨b, off, hA, hb, hc⟩ := h.cells hk
  exact ⟨b, off, hA, hb, by simpa [cI] using hc 0 (by omega)⟩
theorem least_step {L : List Int} {i : Nat} {z : Int} (h0 : 0 < i) (hz : L[i]? = some z) : leastV (L.take (i + 1)) = min (leastV (L.take i)) z := by
  rw [take_next hz]
  have hl := (List.getElem?_eq_some_iff.1 hz).1
  match L, hl with
  | x :: r, _ =>
    obtain ⟨j, rfl⟩ : ∃ j, i = j + 1 := ⟨i - 1, by omega⟩
    simp [leastV]
theorem most_step {L : List Int} {i : Nat} {z : Int} (h0 : 0 < i) (hz : L[i]? = some z) : mostV (L.take (i + 1)) = max (mostV (L.take i)) z := by
  rw [take_next hz]
  have hl := (List.getElem?_eq_some_iff.1 hz).1
  match L, hl with
  | x :: r, _ =>
    obtain ⟨j, rfl⟩ : ∃ j, i = j + 1 := ⟨i - 1, by omega⟩
    simp [mostV]
theorem one_step {L : List Int} {z : Int} (hz : L[0]? = some z) : leastV (L.take 1) = z ∧ mostV (L.take 1) = z := by
  match L, hz with
  | x :: r, hz =>
    have e : x = z := by simpa using hz
    simp [leastV, mostV, e]
set_option maxRecDepth 100000 in
set_option maxHeartbeats 1000000 in
theorem min_any (A : Option Addr) (c : Nat) (L : List Int) (hn : 0 < L.length) (mL : L.length ≤ 1000000) (w : World) (hL : Li w A L) :
    Calls Tryd.prog 30 #[.slice A L.length c] w fun e w' => e = .returned (.int .i64 (leastV L)) ∧ Below w.heap.size w w' := by
  obtain ⟨z0, hz0⟩ : ∃ z, L[0]? = some z := ⟨_, List.getElem?_eq_getElem hn⟩
  obtain ⟨b1, o1, rfl, hb1, c0⟩ := at_i hL hz0
  rw [Nat.add_zero] at c0
  have H1 := Lib.hid (one_step hz0)
  have HL := Lib.hid hL
  obtain ⟨n, hnl⟩ : ∃ n, n = L.length := ⟨_, rfl⟩
  rw [← hnl] at hn mL ⊢
  have HNL := Lib.hid hnl
  clear hL hz0 hnl
  have hn1 : ¬ (n : Int) < 1 := by omega
  go_enter Tryd.func30, Tryd.ntmps30
  go_wp2_with fail
  go_loopw [3, 4] (fun m s wr => ∃ k : Nat, 1 ≤ k ∧ k ≤ n ∧ s = .int .i64 k ∧ m = .int .i64 (leastV (L.take k)) ∧ Hid (Below w.heap.size w wr)) (fun _ s _ => n - (intOf s).toNat)
  case atStart => exact ⟨1, Nat.le_refl _, hn, rfl, by rw [H1.out.1], Lib.hid (by first | exact Below.refl _ _ | exact below_drewN (Below.refl _ _) _)⟩
  case round =>
    obtain ⟨k, h1, hk, rfl, rfl, HB⟩ := hrel
    by_cases hlt : k < n
    · obtain ⟨z, hz⟩ : ∃ z, L[k]? = some z := ⟨_, List.getElem?_eq_getElem (by have := HNL.out; omega)⟩
      have cz : wr.cell? ⟨b1, o1 + k, none⟩ = some (.int .i64 z) := by
        obtain ⟨b2, o2, hA2, hb2, cz⟩ := at_i (HL.out.below HB.out) hz
        injection (Option.some.inj hA2) with e1 e2
        rw [e1, e2]; exact cz
      have HS := Lib.hid (least_step (show 0 < k by omega) hz)
      clear hz
      go_wp2_with fail
      go_roundw
      case rel => exact ⟨k + 1, by omega, by omega, by go_num, by rw [HS.out]; congr 1; split <;> omega, HB⟩
      case measure => simp [intOf]; omega
    · obtain rfl : k = n := by omega
      have HT := Lib.hid (show L.take k = L by rw [HNL.out, List.take_length])
      go_wp2_with fail
      go_ret
      rw [HT.out]
      exact ⟨rfl, HB.out⟩

set_option maxRecDepth 100000 in
set_option maxHeartbeats 1000000 in
theorem max_any (A : Option Addr) (c : Nat) (L : List Int) (hn : 0 < L.length) (mL : L.length ≤ 1000000) (w : World) (hL : Li w A L) :
    Calls Tryd.prog 31 #[.slice A L.length c] w fun e w' => e = .returned (.int .i64 (mostV L)) ∧ Below w.heap.size w w' := by
  obtain ⟨z0, hz0⟩ : ∃ z, L[0]? = some z := ⟨_, List.getElem?_eq_getElem hn⟩
  obtain ⟨b1, o1, rfl, hb1, c0⟩ := at_i hL hz0
  rw [Nat.add_zero] at c0
  have H1 := Lib.hid (one_step hz0)
  have HL := Lib.hid hL
  obtain ⟨n, hnl⟩ : ∃ n, n = L.length := ⟨_, rfl⟩
  rw [← hnl] at hn mL ⊢
  have HNL := Lib.hid hnl
  clear hL hz0 hnl
  have hn1 : ¬ (n : Int) < 1 := by omega
  go_enter Tryd.func31, Tryd.ntmps31
  go_wp2_with fail
  go_loopw [3, 4] (fun m s wr => ∃ k : Nat, 1 ≤ k ∧ k ≤ n ∧ s = .int .i64 k ∧ m = .int .i64 (mostV (L.take k)) ∧ Hid (Below w.heap.size w wr)) (fun _ s _ => n - (intOf s).toNat)
  case atStart => exact ⟨1, Nat.le_refl _, hn, rfl, by rw [H1.out.2], Lib.hid (by first | exact Below.refl _ _ | exact below_drewN (Below.refl _ _) _)⟩
  case round =>
    obtain ⟨k, h1, hk, rfl, rfl, HB⟩ := hrel
    by_cases hlt : k < n
    · obtain ⟨z, hz⟩ : ∃ z, L[k]? = some z := ⟨_, List.getElem?_eq_getElem (by have := HNL.out; omega)⟩
      have cz : wr.cell? ⟨b1, o1 + k, none⟩ = some (.int .i64 z) := by
        obtain ⟨b2, o2, hA2, hb2, cz⟩ := at_i (HL.out.below HB.out) hz
        injection (Option.some.inj hA2) with e1 e2
        rw [e1, e2]; exact cz
      have HS := Lib.hid (most_step (show 0 < k by omega) hz)
      clear hz
      go_wp2_with fail
      go_roundw
      case rel => exact ⟨k + 1, by omega, by omega, by go_num, by rw [HS.out]; congr 1; split <;> omega, HB⟩
      case measure => simp [intOf]; omega
    · obtain rfl : k = n := by omega
      have HT := Lib.hid (show L.take k = L by rw [HNL.out, List.take_length])
      go_wp2_with fail
      go_ret
      rw [HT.out]
      exact ⟨rfl, HB.out⟩

theorem sum_step {L : List Int} {i : Nat} {z : Int} (hz : L[i]? = some z) : IntKind.i64.wrap (w64 (L.take i).sum + z) = w64 (L.take (i + 1)).sum := by
  rw [w64_wrap, w64_add, take_next hz, foldr_sum]
set_option maxRecDepth 100000 in
set_option maxHeartbeats 1000000 in
theorem total_any (k : Int) (A : Option Addr) (c : Nat) (L : List Int) (hn : 0 < L.length) (mL : L.length ≤ 1000000) (w : World) (hL : Li w A L) :
    Calls Tryd.prog 21 #[.int .i64 k, .slice A L.length c] w fun e w' => e = .returned (.int .i64 (totV k L)) ∧ Below w.heap.size w w' := by
  have MI := Lib.hid (fun w0 (b : Below w.heap.size w w0) => min_any A c L hn mL w0 (hL.below b))
  have MA := Lib.hid (fun w0 (b : Below w.heap.size w w0) => max_any A c L hn mL w0 (hL.below b))
  have HL := Lib.hid hL
  clear hL
  obtain ⟨n, hnl⟩ : ∃ n, n = L.length := ⟨_, rfl⟩
  rw [← hnl] at hn mL MI MA ⊢
  have HNL := Lib.hid hnl
  clear hnl
  by_cases h2 : k = 12
  · have HV : Hid (totV k L = (n : Int)) := Lib.hid (by unfold totV; rw [if_pos h2, HNL.out])
    rw [HV.out]
    clear HV
    subst h2
    go_enter Tryd.func21, Tryd.ntmps21
    go_wp2_with fail
    go_ret
    exact ⟨rfl, Below.refl _ _⟩
  by_cases h3 : k = 13
  · have HV : Hid (totV k L = leastV L) := Lib.hid (by unfold totV; rw [if_neg h2, if_pos h3])
    rw [HV.out]
    generalize leastV L = z at MI
    clear HV h2
    subst h3
    go_enter Tryd.func21, Tryd.ntmps21
    go_wp2_with (go_at_call 30; refine (MI.out _ (Below.refl _ _)).mono ?_; rintro e w2 ⟨rfl, b2⟩; have B2 := Lib.hid b2; clear b2)
    go_ret
    exact ⟨rfl, B2.out⟩
  by_cases h4 : k = 14
  · have HV : Hid (totV k L = mostV L) := Lib.hid (by unfold totV; rw [if_neg h2, if_neg h3, if_pos h4])
    rw [HV.out]
    generalize mostV L = z at MA
    clear HV h2 h3
    subst h4
    go_enter Tryd.func21, Tryd.ntmps21
    go_wp2_with (go_at_call 31; refine (MA.out _ (Below.refl _ _)).mono ?_; rintro e w2 ⟨rfl, b2⟩; have B2 := Lib.hid b2; clear b2)
    go_ret
    exact ⟨rfl, B2.out⟩
  have HV : Hid (totV k L = w64 (L.take n).sum) := Lib.hid (by unfold totV; rw [if_neg h2, if_neg h3, if_neg h4, HNL.out, List.take_length])
  rw [HV.out]
  have e2 : (k == 12) = false := by simpa using h2
  have e3 : (k == 13) = false := by simpa using h3
  have e4 : (k == 14) = false := by simpa using h4
  clear HV h2 h3 h4 MI MA
  go_enter Tryd.func21, Tryd.ntmps21
  go_wp2_with fail
  go_loopw [5, 23] (fun m s wr => ∃ i : Nat, i ≤ n ∧ s = .int .i64 i ∧ m = .int .i64 (w64 (L.take i).sum) ∧ Hid (Below w.heap.size w wr)) (fun _ s _ => n - (intOf s).toNat)
  case atStart => exact ⟨0, Nat.zero_le _, rfl, rfl, Lib.hid (Below.refl _ _)⟩
  case round =>
    obtain ⟨i, hi, rfl, rfl, HB⟩ := hrel
    by_cases hlt : i < n
    · obtain ⟨z, hz⟩ : ∃ z, L[i]? = some z := ⟨_, List.getElem?_eq_getElem (by have := HNL.out; omega)⟩
      obtain ⟨b1, o1, rfl, hb1, c0⟩ := at_i (HL.out.below HB.out) hz
      have hs := sum_step hz
      generalize w64 (L.take i).sum = u at hs ⊢
      clear hz
      go_wp2_with fail
      go_roundw
      case rel => exact ⟨i + 1, by omega, by go_num, rfl, HB⟩
      case measure => simp [intOf]; omega
    · obtain rfl : i = n := by omega
      go_wp2_with fail
      go_ret
      exact ⟨rfl, HB.out⟩
end Go.Proofs.YtpbdfiddgbkkmaaDoor.oper
