/-
  What is wrong with a name, by the document.
-/
import Derived.Test.YtpblpjopinllcaaGreatDoorJGc
import Derived.Test.YtpblpjopinllcaaGreatDoorJWu
namespace Go.Proofs.YtpblpjopinllcaaGreatDoor.graph
open Go.ChangeShapes Go.WideShapes Go.ChangeAt Go.RowKit
open Go.Proofs.YtpblpjopinllcaaGreatDoor.opened Go.Proofs.YtpblpjopinllcaaGreatDoor.block Go.Proofs.YtpblpjopinllcaaGreatDoor.words
def cSt (s : Bs) : List Value := [sV s]
theorem at_st {w : World} {A : Option Addr} {M : List Bs} (h : Lg 1 cSt w A M) {k : Nat} {p : Bs} (hk : M[k]? = some p) :
    ∃ b off, A = some ⟨b, off, none⟩ ∧ b < w.heap.size ∧ w.cell? ⟨b, off + k, none⟩ = some (sV p) := by
  obtain ⟨b, off, hA, hb, hc⟩ := h.cells hk
  exact ⟨b, off, hA, hb, by simpa [cSt, Nat.add_assoc] using hc 0 (by omega)⟩
set_option maxRecDepth 100000 in
theorem nameR9_any (n : Bs) (A : Option Addr) (c : Nat) (M : List Bs) (h5 : M.length ≤ 100000) (w : World) (h : Lg 1 cSt w A M) :
    Calls Tryz.prog 151 #[sV n, .slice A M.length c] w fun e w' => e = .returned (.int .i64 (nameE M n)) ∧ Below w.heap.size w w' := by
  have N := fun w => nameR_any n w
  have H := Lib.hid h
  obtain ⟨E, hE⟩ : ∃ E, nameE M n = E := ⟨_, rfl⟩
  rw [hE]
  unfold nameE at hE
  replace hE := Lib.hid hE
  clear h
  cases hb : nameB n
  · rw [hb] at N
    replace N := Lib.hid N
    obtain rfl : 6 = E := by rw [← hE.out, if_pos hb]
    clear hE
    go_enter Tryz.func151, Tryz.ntmps151
    go_wp2_with (go_at_call 231; refine (N.out _).mono ?_; rintro e w1 ⟨rfl, b1⟩)
    go_ret
    exact ⟨rfl, b1⟩
  rw [hb] at N
  replace N := Lib.hid N
  replace hE := Lib.hid ((if_neg (by rw [hb]; decide)).symm.trans hE.out)
  clear hb
  go_enter Tryz.func151, Tryz.ntmps151
  go_upto_region 3 with (go_at_call 231; refine (N.out _).mono ?_; rintro e w1 ⟨rfl, b1⟩)
  replace H := Lib.hid (H.out.below b1)
  replace b1 := Lib.hid b1
  go_wp2_with fail
  go_loopw [5] (fun a wr => ∃ i : Nat, i ≤ M.length ∧ a = .int .i64 i ∧ Hid (n ∉ M.take i) ∧ wr = w1) (fun a _ => (M.length - intOf a).toNat)
  case atStart => exact ⟨0, by omega, rfl, Lib.hid (by simp), rfl⟩
  case round =>
    obtain ⟨i, hi, rfl, Z, rfl⟩ := hrel
    by_cases hin : i = M.length
    · obtain rfl : 0 = E := by rw [← hE.out, if_neg]; have := Z.out; rwa [hin, List.take_length] at this
      clear hE Z
      have hlt : ¬ ((i : Int) < M.length) := by omega
      go_wp2_with fail
      go_ret
      exact ⟨rfl, b1.out⟩
    · have hlt : i < M.length := by omega
      obtain ⟨x, hx⟩ : ∃ x, M[i]? = some x := ⟨M[i], List.getElem?_eq_getElem hlt⟩
      obtain ⟨b, o, hA, hb, c0⟩ := at_st H.out hx
      subst hA
      by_cases hxn : x = n
      · subst hxn
        obtain rfl : 4 = E := by rw [← hE.out, if_pos (List.mem_of_getElem? hx)]
        clear hE Z hx
        go_wp2_with fail
        go_ret
        exact ⟨rfl, b1.out⟩
      · have hne : (x == n) = false := by rw [beq_eq_false_iff_ne]; exact hxn
        have Z2 := Lib.hid (show n ∉ M.take (i + 1) by
          rw [List.take_add_one, hx]
          simp only [Option.toList, List.mem_append, List.mem_singleton, not_or]
          exact ⟨Z.out, fun h => hxn h.symm⟩)
        clear hE Z hx hxn
        go_wp2_with fail
        go_roundw
        case rel => exact ⟨i + 1, hlt, by go_num, Z2, by first | rfl | trivial⟩
        case measure => simp [intOf]; omega
end Go.Proofs.YtpblpjopinllcaaGreatDoor.graph
