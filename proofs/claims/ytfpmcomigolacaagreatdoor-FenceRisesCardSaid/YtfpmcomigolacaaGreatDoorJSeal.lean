/-
  
  Frames of a log: a text's frame, and the frame at the front of some bytes (mathematics, and the program's).
-/
import Derived.Test.YtfpmcomigolacaaGreatDoorRows
import Derived.WalkKit
import Derived.ProofKit
import Derived.OpenShut
import Derived.Lib.Hide
import Derived.Deep.QuietTactic
import Derived.BigQuiet
import Derived.Laws.BitsAllLaws
import Derived.WalkSpells
import Derived.Laws.IdiomStrings
import Derived.Test.YtfpmcomigolacaaGreatDoorJCrcMath
import Derived.Test.YtfpmcomigolacaaGreatDoorJOpen
import Derived.Test.YtfpmcomigolacaaGreatDoorJBlock
import Derived.Test.YtfpmcomigolacaaGreatDoorJEnc
import Derived.Test.YtfpmcomigolacaaGreatDoorJRdA
import Derived.Test.YtfpmcomigolacaaGreatDoorJMath
import Derived.Deep.DeepCutAuto
import Derived.Test.YtfpmcomigolacaaGreatDoorJWu
set_option linter.unusedSimpArgs false
set_option linter.unusedVariables false
namespace Go.Proofs.YtfpmcomigolacaaGreatDoor.crc
open Go.ChangeShapes Go.WideShapes Go.ChangeAt Go.RowKit
open Go.Proofs.YtfpmcomigolacaaGreatDoor.crcm Go.Proofs.YtfpmcomigolacaaGreatDoor.block Go.Proofs.YtfpmcomigolacaaGreatDoor.opened


theorem str_add (l : List UInt8) (s : ByteArray) : (⟨l.toArray⟩ : ByteArray) ++ s = ⟨(l ++ s.data.toList).toArray⟩ := ByteArray.ext (by simp)
theorem ret_str {a b : ByteArray} (h : a = b) : Ending.returned (.string a) = .returned (.string b) := by rw [h]
set_option maxRecDepth 100000 in
theorem head_conv (w : World) (t : TypeId) (n : Nat) : (convert 77 9 (.slice (some ⟨w.heap.size, 0, none⟩) 4 4)).run Tryz.prog (w.alloc (.cells #[.int .u8 ((n : Int) % 256), .int .u8 ((n : Int) / 256 % 256), .int .u8 ((n : Int) / 65536 % 256), .int .u8 ((n : Int) / 16777216 % 256)] t)) =
    .ok (.string ⟨(headL n).toArray⟩) (w.alloc (.cells #[.int .u8 ((n : Int) % 256), .int .u8 ((n : Int) / 256 % 256), .int .u8 ((n : Int) / 65536 % 256), .int .u8 ((n : Int) / 16777216 % 256)] t)) := by
  refine run_convert_bytes_back _ 77 9 5 ⟨w.heap.size, 0, none⟩ 4 (headL n) Tryz.underlying77 Tryz.underlying5 Tryz.underlying9 ?_
  intro j hj
  rw [headL_length] at hj
  have hr := (Whole.fresh w t #[.int .u8 ((n : Int) % 256), .int .u8 ((n : Int) / 256 % 256), .int .u8 ((n : Int) / 65536 % 256), .int .u8 ((n : Int) / 16777216 % 256)]).read j
  have ha : (⟨w.heap.size, 0, none⟩ : Addr).add j = ⟨w.heap.size, j, none⟩ := by
    unfold Addr.add
    by_cases h : j = 0 <;> simp [h]
  rw [ha, hr]
  obtain rfl | rfl | rfl | rfl : j = 0 ∨ j = 1 ∨ j = 2 ∨ j = 3 := by omega
  all_goals simp [headL]

theorem seal_any (l : List UInt8) (hl : l.length ≤ 140737488351232) (w : World) : Calls Tryz.prog 94 #[.string ⟨l.toArray⟩] w fun e w' => e = .returned (.string ⟨(sealL l).toArray⟩) ∧ Below w.heap.size w w' := by
  go_enter Tryz.func94, Tryz.ntmps94
  go_wp2_with fail
  refine (sum_any l hl _).mono ?_
  rintro e w' ⟨rfl, rfl⟩
  have hc := head_conv w 148 (sumL l)
  have hh : (headL (sumL l)).length = 4 := rfl
  go_wp2
  go_ret
  exact ⟨ret_str (str_add _ _), (Below.refl _ _).alloc (Nat.le_refl _) _⟩
/-- What Open answers. -/
def opened (l : List UInt8) : Ending := .returned (.tuple #[.string ⟨(openT l).toArray⟩, .bool (isSeal l)])
theorem str_drop (l : List UInt8) (n : Nat) : (⟨l.toArray⟩ : ByteArray).extract n l.length = ⟨(l.drop n).toArray⟩ := by
  apply ByteArray.ext
  simp only [ByteArray.data_extract, List.extract_toArray]
  congr 1
  rw [List.extract_eq_take_drop]
  exact List.take_of_length_le (by simp)
theorem str_take (l : List UInt8) (n : Nat) : (⟨l.toArray⟩ : ByteArray).extract 0 n = ⟨(l.take n).toArray⟩ := by
  apply ByteArray.ext
  simp [ByteArray.data_extract]
theorem seal_drop (l : List UInt8) (hl : l.length ≤ 140737488351232) (w : World) : Calls Tryz.prog 94 #[.string ((⟨l.toArray⟩ : ByteArray).extract 4 l.length)] w fun e w' => e = .returned (.string ⟨(sealL (l.drop 4)).toArray⟩) ∧ Below w.heap.size w w' := by
  rw [str_drop]
  exact seal_any _ (by simp; omega) w
theorem opened_yes {l : List UInt8} (h4 : 4 ≤ l.length) (hs : sealL (l.drop 4) = l) : Ending.returned (.tuple #[.string ((⟨l.toArray⟩ : ByteArray).extract 4 l.length), .bool true]) = opened l := by
  have h : isSeal l = true := by simp [isSeal, h4, hs]
  unfold opened openT
  rw [if_pos h, h, str_drop]
theorem opened_no {l : List UInt8} (h4 : ¬ 4 ≤ l.length ∨ ¬ sealL (l.drop 4) = l) : Ending.returned (.tuple #[.string ⟨#[]⟩, .bool false]) = opened l := by
  have h : isSeal l = false := by
    rcases h4 with h4 | hs
    · simp [isSeal, h4]
    · simp [isSeal, hs]
  unfold opened openT
  rw [if_neg (by simp [h]), h]
theorem open_any (l : List UInt8) (hl : l.length ≤ 140737488351232) (w : World) : Calls Tryz.prog 128 #[.string ⟨l.toArray⟩] w fun e w' => e = opened l ∧ Below w.heap.size w w' := by
  by_cases h4 : 4 ≤ l.length
  · go_enter Tryz.func128, Tryz.ntmps128
    go_wp2_with fail
    refine (seal_drop l hl _).mono ?_
    rintro e w' ⟨rfl, hb⟩
    by_cases hs : sealL (l.drop 4) = l
    · go_wp2
      go_ret2
      exact ⟨opened_yes h4 hs, hb⟩
    · have e1 : (l == sealL (l.drop 4)) = false := by
        simp only [beq_eq_false_iff_ne, ne_eq]
        exact fun h => hs h.symm
      have e2 : (sealL (l.drop 4) == l) = false := by simp [hs]
      go_wp2
      go_ret2
      exact ⟨opened_no (.inr hs), hb⟩
  · go_enter Tryz.func128, Tryz.ntmps128
    go_wp2
    go_ret2
    exact ⟨opened_no (.inl h4), Below.refl _ _⟩
end Go.Proofs.YtfpmcomigolacaaGreatDoor.crc
set_option linter.unusedSimpArgs false
set_option linter.unusedVariables false
namespace Go.Proofs.YtfpmcomigolacaaGreatDoor.wal
open Go.ChangeShapes Go.WideShapes Go.ChangeAt Go.RowKit
open Go.Proofs.YtfpmcomigolacaaGreatDoor.opened Go.Proofs.YtfpmcomigolacaaGreatDoor.block Go.Proofs.YtfpmcomigolacaaGreatDoor.words Go.Proofs.YtfpmcomigolacaaGreatDoor.enc Go.Proofs.YtfpmcomigolacaaGreatDoor.code Go.Proofs.YtfpmcomigolacaaGreatDoor.crcm Go.Proofs.YtfpmcomigolacaaGreatDoor.crc
set_option maxRecDepth 100000 in
theorem frame_any (s : Bs) (hs : s.length ≤ 100000) (w : World) :
    Calls Tryz.prog 67 #[.string ⟨s.toArray⟩] w fun e w' => e = .returned (.string ⟨(frameL s).toArray⟩) ∧ Below w.heap.size w w' := by
  have hls : (⟨s.toArray⟩ : ByteArray).size = s.length := by show s.toArray.size = _; simp
  have N := Lib.hid (num_any s.length (by omega) w)
  have S := Lib.hid (fun W => seal_any s (by omega) W)
  have e1 : (s.length : Int) % 18446744073709551616 = s.length := by omega
  unfold frameL
  have hap : (⟨(enc s.length).toArray⟩ : ByteArray) ++ (⟨(sealL s).toArray⟩ : ByteArray) = ⟨(enc s.length ++ sealL s).toArray⟩ := ByteArray.ext (by simp)
  rw [← hap]
  have hab : ¬ 9223372036854775807 < (enc s.length).length + (sealL s).length := by have := len_enc s.length; have := sealL_length s; omega
  generalize enc s.length = a at N hap hab ⊢
  generalize sealL s = b at S hap hab ⊢
  clear hap
  go_enter Tryz.func67, Tryz.ntmps67
  go_wp2_with (first
    | (go_at_call 76; refine N.out.mono ?_; rintro e w3 ⟨rfl, b3⟩)
    | (go_at_call 94; refine (S.out _).mono ?_; rintro e w4 ⟨rfl, b4⟩))
  go_ret
  exact ⟨rfl, then_below b3 b4⟩
set_option maxRecDepth 100000 in
set_option maxHeartbeats 2000000 in
theorem unframe_any (s : Bs) (hs : s.length ≤ 10000000) (w : World) :
    Calls Tryz.prog 113 #[.string ⟨s.toArray⟩] w fun e w' => e = .returned (.tuple #[.string ⟨(unfV s).1.toArray⟩, .int .i64 (unfV s).2.1, .bool (unfV s).2.2]) ∧ Below w.heap.size w w' := by
  have hls : (⟨s.toArray⟩ : ByteArray).size = s.length := by show s.toArray.size = _; simp
  have NW := Lib.hid (new_l s w)
  have IN := Lib.hid (fun g W (h : RdA W g s 0) => intA g s 0 4096 (by omega) (by omega) (by omega) W h)
  obtain ⟨q0, q1, q2⟩ := rInt_bd s 0 4096
  have ER := Lib.hid (fun g l e W (h : RdA W g l e) => errA g l e W h)
  have LF := Lib.hid (fun g l e W (h : RdA W g l e) => leftA g l e W h)
  unfold unfV
  generalize (rInt s 0 4096).2.2 = er at IN ⊢
  generalize (rInt s 0 4096).2.1 = u at IN q2 ⊢
  generalize (rInt s 0 4096).1 = n at IN q0 q1 ⊢
  have hn : n ≤ 4096 := by omega
  clear q1
  have hdl : (s.drop u).length = s.length - u := by simp
  obtain ⟨R, hR⟩ : ∃ R, (if er ≠ 0 ∨ ((s.length - u : Nat) : Int) < n + 4 then ([], 0, false)
    else if isSeal ((s.drop u).take (n.toNat + 4)) = true then (openT ((s.drop u).take (n.toNat + 4)), u + 4 + n.toNat, true) else ([], 0, false) : Bs × Nat × Bool) = R := ⟨_, rfl⟩
  rw [hR]
  have HR := Lib.hid hR
  clear hR
  obtain ⟨g, hg⟩ : ∃ g, w.heap.size = g := ⟨_, rfl⟩
  rw [hg] at NW
  have HG := Lib.hid hg
  clear hg
  go_enter Tryz.func113, Tryz.ntmps113
  go_upto_region 3 with (first
    | (go_at_call 77; refine NW.out.mono ?_; rintro e w3 ⟨rfl, hR, b3⟩; have R3 := Lib.hid hR; have B3 := Lib.hid b3; clear hR b3)
    | (go_at_call 78; refine (IN.out _ _ R3.out).mono ?_; rintro e w4 ⟨rfl, hR, b4⟩; have R4 := Lib.hid hR; have B4 := Lib.hid (show Below w.heap.size w w4 from by
        have g1 := B3.out
        exact ⟨b4.os.trans g1.os, b4.tape.trans g1.tape, b4.output.trans g1.output, Nat.le_trans g1.size b4.size, fun k hk => (b4.block k (by have := g1.size; omega) (by intro e; have := HG.out; cases e; omega)).trans (g1.block k hk (by intro e; cases e))⟩); clear hR b4))
  have HLs := Lib.hid hls
  clear NW IN R3 B3
  have ER4 := Lib.hid (ER.out g (s.drop u) er w4 R4.out)
  have LF4 := Lib.hid (LF.out g (s.drop u) er w4 R4.out)
  rw [hdl] at LF4
  clear ER LF
  by_cases he : er = 0
  case neg =>
    have hne : (er == 0) = false := by rw [beq_eq_false_iff_ne]; exact he
    have eR := HR.out
    rw [if_pos (.inl he)] at eR
    subst eR
    go_wp2_with (go_at_call 79; refine ER4.out.mono ?_; rintro e w5 ⟨rfl, rfl⟩)
    go_ret3
    exact ⟨rfl, B4.out⟩
  subst he
  obtain ⟨m, rfl⟩ : ∃ m : Nat, n = m := ⟨n.toNat, by omega⟩
  by_cases hgt : ((s.length - u : Nat) : Int) < (m : Int) + 4
  · have eR := HR.out
    rw [if_pos (.inr hgt)] at eR
    subst eR
    go_wp2_with (first
      | (go_at_call 79; refine ER4.out.mono ?_; rintro e w5 ⟨rfl, rfl⟩)
      | (go_at_call 80; refine LF4.out.mono ?_; rintro e w6 ⟨rfl, rfl⟩))
    go_ret3
    exact ⟨rfl, B4.out⟩
  have eR := HR.out
  rw [if_neg (by rintro (h | h); exact h rfl; exact hgt h), Int.toNat_natCast] at eR
  clear HR
  have hsub : (s.length : Int) - ((s.length - u : Nat) : Int) = (u : Int) := by omega
  have hslc : ∀ W, (Instr.slice 9 (.string ⟨s.toArray⟩) (some (.int .i64 (u : Int))) (some (.int .i64 ((u : Int) + 4 + (m : Int)))) none).run Tryz.prog W = .ok (.string ⟨((s.drop u).take (m + 4)).toArray⟩) W := fun W => by
    have h := slice_str s u (u + 4 + m) (by omega) (by omega) W
    have e1 : (((u + 4 + m : Nat)) : Int) = (u : Int) + 4 + (m : Int) := by omega
    have e2 : u + 4 + m - u = m + 4 := by omega
    rw [e1] at h
    rw [h, extractU, e2]
  have OP := fun W => open_any ((s.drop u).take (m + 4)) (by simp; omega) W
  unfold opened at OP
  generalize (s.drop u).take (m + 4) = t at hslc OP eR
  replace OP := Lib.hid OP
  generalize s.length - u = rest at LF4 hgt hsub
  cases hT : isSeal t
  · rw [hT] at OP
    rw [hT, if_neg (by simp)] at eR
    subst eR
    clear hT
    go_wp2_with (first
      | (go_at_call 79; refine ER4.out.mono ?_; rintro e w5 ⟨rfl, rfl⟩)
      | (go_at_call 80; refine LF4.out.mono ?_; rintro e w6 ⟨rfl, rfl⟩)
      | (go_at_call 128; refine (OP.out _).mono ?_; rintro e w7 ⟨rfl, b7⟩))
    go_ret3
    exact ⟨rfl, then_below B4.out b7⟩
  · rw [hT] at OP
    rw [hT, if_pos rfl] at eR
    generalize openT t = ot at OP eR
    have HR := Lib.hid eR
    clear hT eR
    go_wp2_with (first
      | (go_at_call 79; refine ER4.out.mono ?_; rintro e w5 ⟨rfl, rfl⟩)
      | (go_at_call 80; refine LF4.out.mono ?_; rintro e w6 ⟨rfl, rfl⟩)
      | (go_at_call 128; refine (OP.out _).mono ?_; rintro e w7 ⟨rfl, b7⟩))
    go_ret3
    have eR := HR.out
    subst eR
    exact ⟨by simp, then_below B4.out b7⟩
end Go.Proofs.YtfpmcomigolacaaGreatDoor.wal
