/-
  The contracts of words.Lines, words.Split and words.Option, and of the comparison of two lists of texts.
-/
import Derived.Test.YtpjlefdigpejdaaOs
import Derived.Test.YtpjlefdigpejdaaLayW
import Derived.Deep.QuietTactic
import Derived.BigQuiet
import Derived.WalkKit
namespace Go.Proofs.Ytpjlefdigpejdaa.words
open Go.ChangeShapes Go.WideShapes Go.ChangeAt Go.RowKit
open Go.Proofs.Ytpjlefdigpejdaa.opened Go.Proofs.Ytpjlefdigpejdaa.block

theorem cut_any (s : Bs) (x : UInt8) (hs : s.length ≤ 100000) (w : World) (hm : MaxIs w) :
    Calls Try.prog 82 #[.string ⟨s.toArray⟩, .string ⟨#[x]⟩] w fun e w' => e = .returned (.tuple #[sV (Lib.cut s [x]).1, sV (Lib.cut s [x]).2.1, .bool (Lib.cut s [x]).2.2]) ∧ Below w.heap.size w w' := by
  obtain ⟨m, hm⟩ := hm
  refine (Any.strings_Cut Try.lays145 ⟨s.toArray⟩ ⟨#[x]⟩ m w (by show s.toArray.size < _; simp; omega) hm).mono ?_
  rintro e w' ⟨he, n, rfl⟩
  exact ⟨he, below_drewN (Below.refl _ _) n⟩
theorem prefix_any (s p : Bs) (w : World) : Calls Try.prog 83 #[.string ⟨s.toArray⟩, .string ⟨p.toArray⟩] w fun e w' => e = .returned (.bool (Lib.hasPrefix s p)) ∧ w = w' :=
  (Any.strings_HasPrefix Try.lays99 ⟨s.toArray⟩ ⟨p.toArray⟩ w).mono fun _ _ ⟨he, hw⟩ => ⟨he, hw.symm⟩
theorem cutp_any (s p : Bs) (w : World) : Calls Try.prog 86 #[.string ⟨s.toArray⟩, .string ⟨p.toArray⟩] w fun e w' => e = .returned (.tuple #[sV (Lib.trimPrefix s p), .bool (Lib.hasPrefix s p)]) ∧ w = w' :=
  (Any.strings_CutPrefix Try.lays103 ⟨s.toArray⟩ ⟨p.toArray⟩ w).mono fun _ _ ⟨he, hw⟩ => ⟨he, hw.symm⟩

set_option maxRecDepth 100000 in
theorem lines_any (s : Bs) (hs : s.length ≤ 100000) (w : World) (hm : MaxIs w) :
    Calls Try.prog 40 #[.string ⟨s.toArray⟩] w fun e w' => ∃ A c, e = .returned (.slice A (linesL s).length c) ∧ OwnS w' w.heap.size (.slice A (linesL s).length c) (linesL s) ∧ Below w.heap.size w w' := by
  have HM := Lib.hid hm
  clear hm
  obtain ⟨i0, hi, hz0, hz1, hz2⟩ := infoS_parts
  go_enter Try.func40, Try.ntmps40
  go_wp2_with fail
  go_loopw [0, 3] (fun sv v wr => ∃ (r : Bs) (N : List Bs) (A : Option Addr) (c : Nat), sv = sV r ∧ v = .slice A N.length c ∧ Hid (linesL s = N ++ linesL r) ∧ N.length + r.length ≤ s.length ∧ Hid (OwnS wr w.heap.size (.slice A N.length c) N) ∧ Below w.heap.size w wr) (fun sv _ _ => lenOf sv)
  case atStart => exact ⟨s, [], none, 0, rfl, rfl, Lib.hid rfl, by simp, Lib.hid (ownS_nil _ _), Below.refl _ _⟩
  case round =>
    obtain ⟨r, N, A, c, rfl, rfl, HN, hl, HO, hb⟩ := hrel
    cases r with
    | nil =>
      obtain rfl : linesL s = N := by have := HN.out; rw [lines_nil, List.append_nil] at this; exact this
      go_wp2_with fail
      go_ret
      exact ⟨A, c, rfl, HO.out, hb⟩
    | cons x q =>
      have C := Lib.hid (cut_any (x :: q) 10 (by simp at hl ⊢; omega) wr (HM.out.below hb))
      have HE : Hid (linesL s = (N ++ [(Lib.cut (x :: q) [10]).1]) ++ linesL (Lib.cut (x :: q) [10]).2.1) := Lib.hid (by rw [List.append_assoc]; exact HN.out.trans (congrArg (N ++ ·) (lines_cut (by simp))))
      have HL := cut_less (l := x :: q) (by simp) 10
      generalize Lib.cut (x :: q) [10] = z at C HE HL
      have hs := hb.size
      go_wp2_with (first
        | (go_at_call 82; refine C.out.mono ?_; rintro e w4 ⟨rfl, b4⟩; have HO4 := Lib.hid (HO.out.below b4); have B4 := Lib.hid (hb.trans (b4.mono hs)); have hs4 := B4.out.size; clear b4)
        | (at_builtin; refine wpList_append_own _ rfl _ _ 75 rfl w.heap.size 9 i0 (.string ByteArray.empty) 1 16 Try.underlying75 hi hz0 hz1 hz2 rfl (by decide) _ _ _ rfl (HO4.out.below (fresh1 w4 (.cells #[sV z.1] 9))) ⟨_, 0, none⟩ 1 1 [sV z.1] rfl rfl (cell_new1 _ _ _) (oneS _) (by unfold maxLen; simp at hl; omega) (by simp at hl; omega) (by simp; omega) ?_; intro v' w5 hown' hgrow _; obtain ⟨g', cap', rfl⟩ := ownS_succ hown'; have b5 := HO4.out.grown hs4 hgrow; have HO5 := Lib.hid hown'; clear hown' hgrow))
      go_roundw
      case rel => exact ⟨z.2.1, N ++ [z.1], some ⟨g', 0, none⟩, cap', rfl, by rw [List.length_append]; rfl, HE, by simp at hl ⊢; simp at HL; omega, Lib.hid (by have := HO5.out; simpa [OwnS] using this), B4.out.trans b5⟩
      case measure => show lenOf (sV z.2.1) < lenOf (sV (x :: q)); rw [lenOf_str, lenOf_str]; exact HL

set_option maxRecDepth 100000 in
theorem split_any (s : Bs) (hs : s.length ≤ 100000) (w : World) (hm : MaxIs w) :
    Calls Try.prog 42 #[.string ⟨s.toArray⟩] w fun e w' => ∃ A c, e = .returned (.slice A (splitL s).length c) ∧ OwnS w' w.heap.size (.slice A (splitL s).length c) (splitL s) ∧ Below w.heap.size w w' := by
  have HM := Lib.hid hm
  clear hm
  obtain ⟨i0, hi, hz0, hz1, hz2⟩ := infoS_parts
  go_enter Try.func42, Try.ntmps42
  go_wp2_with fail
  go_loopw [0, 3] (fun sv v wr => ∃ (r : Bs) (N : List Bs) (A : Option Addr) (c : Nat), sv = sV r ∧ v = .slice A N.length c ∧ Hid (splitL s = N ++ splitL r) ∧ N.length + r.length ≤ s.length ∧ Hid (OwnS wr w.heap.size (.slice A N.length c) N) ∧ Below w.heap.size w wr) (fun sv _ _ => lenOf sv)
  case atStart => exact ⟨s, [], none, 0, rfl, rfl, Lib.hid rfl, by simp, Lib.hid (ownS_nil _ _), Below.refl _ _⟩
  case round =>
    obtain ⟨r, N, A, c, rfl, rfl, HN, hl, HO, hb⟩ := hrel
    cases r with
    | nil =>
      obtain rfl : splitL s = N := by have := HN.out; rw [split_nil, List.append_nil] at this; exact this
      go_wp2_with fail
      go_ret
      exact ⟨A, c, rfl, HO.out, hb⟩
    | cons x q =>
      have C := Lib.hid (cut_any (x :: q) 32 (by simp at hl ⊢; omega) wr (HM.out.below hb))
      have HE := Lib.hid (split_cut (x :: q))
      have HL := cut_less (l := x :: q) (by simp) 32
      generalize Lib.cut (x :: q) [32] = z at C HE HL
      have P := Lib.hid (fun W => prefix_any z.1 [35] W)
      have hs := hb.size
      rw [show Lib.hasPrefix z.1 [35] = isNote z.1 from rfl] at P
      cases hn : isNote z.1
      · rw [hn] at P HE
        clear hn
        obtain ⟨z1, z2, z3⟩ := z
        dsimp only at C HE HL P
        cases z1 with
        | nil =>
          have HQ : Hid (splitL s = N ++ splitL z2) := Lib.hid (by have := HE.out; rw [if_neg (by simp), if_pos rfl] at this; rw [HN.out, this])
          clear HE HN
          go_wp2_with (first
            | (go_at_call 82; refine C.out.mono ?_; rintro e w4 ⟨rfl, b4⟩; have HO4 := Lib.hid (HO.out.below b4); have B4 := Lib.hid (hb.trans (b4.mono hs)); have hs4 := B4.out.size; clear b4)
            | (go_at_call 83; refine (P.out _).mono ?_; rintro e w5 ⟨rfl, rfl⟩))
          go_roundw
          case rel => exact ⟨z2, N, A, c, rfl, rfl, HQ, by simp at hl HL; omega, HO4, B4.out⟩
          case measure => show lenOf (sV z2) < lenOf (sV (x :: q)); rw [lenOf_str, lenOf_str]; exact HL
        | cons y t =>
          have HQ : Hid (splitL s = (N ++ [y :: t]) ++ splitL z2) := Lib.hid (by have := HE.out; rw [if_neg (by simp), if_neg (by simp)] at this; rw [HN.out, this]; simp)
          clear HE HN
          go_wp2_with (first
            | (go_at_call 82; refine C.out.mono ?_; rintro e w4 ⟨rfl, b4⟩; have HO4 := Lib.hid (HO.out.below b4); have B4 := Lib.hid (hb.trans (b4.mono hs)); have hs4 := B4.out.size; clear b4)
            | (go_at_call 83; refine (P.out _).mono ?_; rintro e w5 ⟨rfl, rfl⟩)
            | (at_builtin; refine wpList_append_own _ rfl _ _ 75 rfl w.heap.size 9 i0 (.string ByteArray.empty) 1 16 Try.underlying75 hi hz0 hz1 hz2 rfl (by decide) _ _ _ rfl (HO4.out.below (fresh1 _ (.cells #[sV (y :: t)] 9))) ⟨_, 0, none⟩ 1 1 [sV (y :: t)] rfl rfl (cell_new1 _ _ _) (oneS _) (by unfold maxLen; simp at hl; omega) (by simp at hl; omega) (by simp; omega) ?_; intro v' w5 hown' hgrow _; obtain ⟨g', cap', rfl⟩ := ownS_succ hown'; have b5 := HO4.out.grown hs4 hgrow; have HO5 := Lib.hid hown'; clear hown' hgrow))
          go_roundw
          case rel => exact ⟨z2, N ++ [y :: t], some ⟨g', 0, none⟩, cap', rfl, by rw [List.length_append]; rfl, HQ, by simp at hl HL ⊢; omega, Lib.hid (by have := HO5.out; simpa [OwnS] using this), B4.out.trans b5⟩
          case measure => show lenOf (sV z2) < lenOf (sV (x :: q)); rw [lenOf_str, lenOf_str]; exact HL
      · rw [hn] at P HE
        clear hn
        obtain rfl : splitL s = N := by have := HE.out; rw [if_pos rfl] at this; rw [HN.out, this, List.append_nil]
        clear HE HN
        go_wp2_with (first
          | (go_at_call 82; refine C.out.mono ?_; rintro e w4 ⟨rfl, b4⟩; have HO4 := Lib.hid (HO.out.below b4); have B4 := Lib.hid (hb.trans (b4.mono hs)); have hs4 := B4.out.size; clear b4)
          | (go_at_call 83; refine (P.out _).mono ?_; rintro e w5 ⟨rfl, rfl⟩))
        go_ret
        exact ⟨A, c, rfl, HO4.out, B4.out⟩

theorem opt_drop {name x : Bs} (h : optF name x = true) : Lib.trimPrefix x (name ++ [61]) = x.drop (name.length + 1) := by
  unfold Lib.trimPrefix
  rw [show Lib.hasPrefix x (name ++ [61]) = true from h, if_pos rfl]
  simp
theorem str_app (a b : Bs) : ({ data := a.toArray } : ByteArray) ++ { data := b.toArray } = ⟨(a ++ b).toArray⟩ := ByteArray.ext (by simp)
set_option maxRecDepth 100000 in
theorem option_any (A : Option Addr) (c : Nat) (l : List Bs) (name : Bs) (hl : l.length ≤ 100000) (hn : name.length ≤ 100000) (w : World) (h : Ls w A l) :
    Calls Try.prog 46 #[.slice A l.length c, .string ⟨name.toArray⟩] w fun e w' => e = .returned (.tuple #[sV (optL name l).1, .bool (optL name l).2]) ∧ w = w' := by
  have H := Lib.hid h
  clear h
  have ha : ({ data := name.toArray } : ByteArray) ++ { data := #[61] } = ⟨(name ++ [61]).toArray⟩ := str_app name [61]
  go_enter Try.func46, Try.ntmps46
  go_wp2_with fail
  clear ha
  go_loop [15] (fun i => ∃ k : Nat, k ≤ l.length ∧ i = .int .i64 k ∧ Hid (∀ y ∈ l.take k, optF name y = false)) (fun i => l.length - (intOf i).toNat)
  case atStart => exact ⟨0, Nat.zero_le _, rfl, Lib.hid (by simp)⟩
  case round =>
    obtain ⟨k, hk, rfl, HN⟩ := hrel
    by_cases hlt : k < l.length
    · obtain ⟨x, hx⟩ : ∃ x, l[k]? = some x := ⟨_, List.getElem?_eq_getElem hlt⟩
      obtain ⟨b, off, rfl, hb, hc⟩ := H.out.at hx
      have HX := Lib.hid hx
      clear hx
      have P := Lib.hid (fun W => cutp_any x (name ++ [61]) W)
      rw [show Lib.hasPrefix x (name ++ [61]) = optF name x from rfl] at P
      cases hf : optF name x
      · rw [hf] at P
        have HQ := Lib.hid (opt_more HN.out HX.out hf)
        clear hf
        go_wp2_with ((go_at_call 86; refine (P.out _).mono ?_; rintro e w4 ⟨rfl, rfl⟩))
        go_round
        case rel => exact ⟨k + 1, by omega, by go_num, HQ⟩
        case measure => simp [intOf]; omega
      · rw [hf, opt_drop hf] at P
        have HQ := Lib.hid (opt_at HN.out HX.out hf)
        clear hf
        go_wp2_with ((go_at_call 86; refine (P.out _).mono ?_; rintro e w4 ⟨rfl, rfl⟩))
        go_ret2
        rw [HQ.out]
        exact ⟨rfl, rfl⟩
    · have hkk : k = l.length := by omega
      subst hkk
      have HQ := Lib.hid (opt_none (name := name) (l := l) (by have := HN.out; rwa [List.take_length] at this))
      go_wp2_with fail
      go_ret2
      rw [HQ.out]
      exact ⟨rfl, rfl⟩
end Go.Proofs.Ytpjlefdigpejdaa.words
