/-
  The contract of the document's Split.
  Frames of a log: a text's frame, and the frame at the front of some bytes (mathematics, and the program's).
-/
import Derived.Test.YtcogehhjofgbiaaGreatDoorJWu
import Derived.Test.YtcogehhjofgbiaaGreatDoorJEnc
import Derived.Test.YtcogehhjofgbiaaGreatDoorJRdA
import Derived.Test.YtcogehhjofgbiaaGreatDoorJSeal
import Derived.Test.YtcogehhjofgbiaaGreatDoorJMath
import Derived.Deep.DeepCutAuto
set_option linter.unusedSimpArgs false
set_option linter.unusedVariables false
namespace Go.Proofs.YtcogehhjofgbiaaGreatDoor.words
open Go.ChangeShapes Go.WideShapes Go.ChangeAt Go.RowKit
open Go.Proofs.YtcogehhjofgbiaaGreatDoor.opened Go.Proofs.YtcogehhjofgbiaaGreatDoor.block

theorem slice_str (s : Bs) (a b : Nat) (h : a ≤ b) (hb : b ≤ s.length) (W : World) : (Instr.slice 9 (.string ⟨s.toArray⟩) (some (.int .i64 (a : Int))) (some (.int .i64 (b : Int))) none).run Tryz.prog W = .ok (.string ((⟨s.toArray⟩ : ByteArray).extract a b)) W := by
  go_simp
theorem u8_is {c : UInt8} {n : Nat} (hn : n < 256) {z : Bool} (h : ((c.toNat : Int) == (n : Int)) = z) : c = UInt8.ofNat n ↔ z = true := by
  rw [← h, beq_iff_eq]
  constructor
  · rintro rfl
    simp
    omega
  · intro h
    refine UInt8.toNat_inj.1 ?_
    simp
    omega
theorem u8_not {c : UInt8} {n : Nat} (hn : n < 256) {z : Bool} (h : ((c.toNat : Int) != (n : Int)) = z) : c = UInt8.ofNat n ↔ z = false := by
  have := u8_is (c := c) hn (z := !z) (by rw [← h]; simp [bne])
  rw [this]
  cases z <;> simp
end Go.Proofs.YtcogehhjofgbiaaGreatDoor.words
set_option linter.unusedSimpArgs false
set_option linter.unusedVariables false
namespace Go.Proofs.YtcogehhjofgbiaaGreatDoor.wal
open Go.ChangeShapes Go.WideShapes Go.ChangeAt Go.RowKit
open Go.Proofs.YtcogehhjofgbiaaGreatDoor.opened Go.Proofs.YtcogehhjofgbiaaGreatDoor.block Go.Proofs.YtcogehhjofgbiaaGreatDoor.words Go.Proofs.YtcogehhjofgbiaaGreatDoor.enc Go.Proofs.YtcogehhjofgbiaaGreatDoor.code Go.Proofs.YtcogehhjofgbiaaGreatDoor.crcm Go.Proofs.YtcogehhjofgbiaaGreatDoor.crc
set_option maxRecDepth 100000 in
theorem frame_any (s : Bs) (hs : s.length ≤ 100000) (w : World) :
    Calls Tryz.prog 68 #[.string ⟨s.toArray⟩] w fun e w' => e = .returned (.string ⟨(frameL s).toArray⟩) ∧ Below w.heap.size w w' := by
  have hls : (⟨s.toArray⟩ : ByteArray).size = s.length := by show s.toArray.size = _; simp
  have N := Lib.hid (num_any s.length (by omega) w)
  have S := Lib.hid (fun W => seal_any s (by omega) W)
  have e1 : (s.length : Int) % 18446744073709551616 = s.length := by omega
  unfold frameL
  have hap : (⟨(enc s.length).toArray⟩ : ByteArray) ++ (⟨(sealL s).toArray⟩ : ByteArray) = ⟨(enc s.length ++ sealL s).toArray⟩ := ByteArray.ext (by simp)
  rw [← hap]
  have hab : ¬ 9223372036854775807 < (enc s.length).length + (sealL s).length := by have := len_enc s.length; have := sealL_length s; omega
  generalize enc s.length = a at N hap hab ⊢
  generalize sealL s = b at S hap hab ⊢
  clear hap
  go_enter Tryz.func68, Tryz.ntmps68
  go_wp2_with (first
    | (go_at_call 77; refine N.out.mono ?_; rintro e w3 ⟨rfl, b3⟩)
    | (go_at_call 95; refine (S.out _).mono ?_; rintro e w4 ⟨rfl, b4⟩))
  go_ret
  exact ⟨rfl, then_below b3 b4⟩
set_option maxRecDepth 100000 in
set_option maxHeartbeats 2000000 in
theorem unframe_any (s : Bs) (hs : s.length ≤ 10000000) (w : World) :
    Calls Tryz.prog 114 #[.string ⟨s.toArray⟩] w fun e w' => e = .returned (.tuple #[.string ⟨(unfV s).1.toArray⟩, .int .i64 (unfV s).2.1, .bool (unfV s).2.2]) ∧ Below w.heap.size w w' := by
  have hls : (⟨s.toArray⟩ : ByteArray).size = s.length := by show s.toArray.size = _; simp
  have NW := Lib.hid (new_l s w)
  have IN := Lib.hid (fun g W (h : RdA W g s 0) => intA g s 0 4096 (by omega) (by omega) (by omega) W h)
  obtain ⟨q0, q1, q2⟩ := rInt_bd s 0 4096
  have ER := Lib.hid (fun g l e W (h : RdA W g l e) => errA g l e W h)
  have LF := Lib.hid (fun g l e W (h : RdA W g l e) => leftA g l e W h)
  unfold unfV
  generalize (rInt s 0 4096).2.2 = er at IN ⊢
  generalize (rInt s 0 4096).2.1 = u at IN q2 ⊢
  generalize (rInt s 0 4096).1 = n at IN q0 q1 ⊢
  have hn : n ≤ 4096 := by omega
  clear q1
  have hdl : (s.drop u).length = s.length - u := by simp
  obtain ⟨R, hR⟩ : ∃ R, (if er ≠ 0 ∨ ((s.length - u : Nat) : Int) < n + 4 then ([], 0, false)
    else if isSeal ((s.drop u).take (n.toNat + 4)) = true then (openT ((s.drop u).take (n.toNat + 4)), u + 4 + n.toNat, true) else ([], 0, false) : Bs × Nat × Bool) = R := ⟨_, rfl⟩
  rw [hR]
  have HR := Lib.hid hR
  clear hR
  obtain ⟨g, hg⟩ : ∃ g, w.heap.size = g := ⟨_, rfl⟩
  rw [hg] at NW
  have HG := Lib.hid hg
  clear hg
  go_enter Tryz.func114, Tryz.ntmps114
  go_upto_region 3 with (first
    | (go_at_call 78; refine NW.out.mono ?_; rintro e w3 ⟨rfl, hR, b3⟩; have R3 := Lib.hid hR; have B3 := Lib.hid b3; clear hR b3)
    | (go_at_call 79; refine (IN.out _ _ R3.out).mono ?_; rintro e w4 ⟨rfl, hR, b4⟩; have R4 := Lib.hid hR; have B4 := Lib.hid (show Below w.heap.size w w4 from by
        have g1 := B3.out
        exact ⟨b4.os.trans g1.os, b4.tape.trans g1.tape, b4.output.trans g1.output, Nat.le_trans g1.size b4.size, fun k hk => (b4.block k (by have := g1.size; omega) (by intro e; have := HG.out; cases e; omega)).trans (g1.block k hk (by intro e; cases e))⟩); clear hR b4))
  have HLs := Lib.hid hls
  clear NW IN R3 B3
  have ER4 := Lib.hid (ER.out g (s.drop u) er w4 R4.out)
  have LF4 := Lib.hid (LF.out g (s.drop u) er w4 R4.out)
  rw [hdl] at LF4
  clear ER LF
  by_cases he : er = 0
  case neg =>
    have hne : (er == 0) = false := by rw [beq_eq_false_iff_ne]; exact he
    have eR := HR.out
    rw [if_pos (.inl he)] at eR
    subst eR
    go_wp2_with (go_at_call 80; refine ER4.out.mono ?_; rintro e w5 ⟨rfl, rfl⟩)
    go_ret3
    exact ⟨rfl, B4.out⟩
  subst he
  obtain ⟨m, rfl⟩ : ∃ m : Nat, n = m := ⟨n.toNat, by omega⟩
  by_cases hgt : ((s.length - u : Nat) : Int) < (m : Int) + 4
  · have eR := HR.out
    rw [if_pos (.inr hgt)] at eR
    subst eR
    go_wp2_with (first
      | (go_at_call 80; refine ER4.out.mono ?_; rintro e w5 ⟨rfl, rfl⟩)
      | (go_at_call 81; refine LF4.out.mono ?_; rintro e w6 ⟨rfl, rfl⟩))
    go_ret3
    exact ⟨rfl, B4.out⟩
  have eR := HR.out
  rw [if_neg (by rintro (h | h); exact h rfl; exact hgt h), Int.toNat_natCast] at eR
  clear HR
  have hsub : (s.length : Int) - ((s.length - u : Nat) : Int) = (u : Int) := by omega
  have hslc : ∀ W, (Instr.slice 9 (.string ⟨s.toArray⟩) (some (.int .i64 (u : Int))) (some (.int .i64 ((u : Int) + 4 + (m : Int)))) none).run Tryz.prog W = .ok (.string ⟨((s.drop u).take (m + 4)).toArray⟩) W := fun W => by
    have h := slice_str s u (u + 4 + m) (by omega) (by omega) W
    have e1 : (((u + 4 + m : Nat)) : Int) = (u : Int) + 4 + (m : Int) := by omega
    have e2 : u + 4 + m - u = m + 4 := by omega
    rw [e1] at h
    rw [h, extractU, e2]
  have OP := fun W => open_any ((s.drop u).take (m + 4)) (by simp; omega) W
  unfold opened at OP
  generalize (s.drop u).take (m + 4) = t at hslc OP eR
  replace OP := Lib.hid OP
  generalize s.length - u = rest at LF4 hgt hsub
  cases hT : isSeal t
  · rw [hT] at OP
    rw [hT, if_neg (by simp)] at eR
    subst eR
    clear hT
    go_wp2_with (first
      | (go_at_call 80; refine ER4.out.mono ?_; rintro e w5 ⟨rfl, rfl⟩)
      | (go_at_call 81; refine LF4.out.mono ?_; rintro e w6 ⟨rfl, rfl⟩)
      | (go_at_call 129; refine (OP.out _).mono ?_; rintro e w7 ⟨rfl, b7⟩))
    go_ret3
    exact ⟨rfl, then_below B4.out b7⟩
  · rw [hT] at OP
    rw [hT, if_pos rfl] at eR
    generalize openT t = ot at OP eR
    have HR := Lib.hid eR
    clear hT eR
    go_wp2_with (first
      | (go_at_call 80; refine ER4.out.mono ?_; rintro e w5 ⟨rfl, rfl⟩)
      | (go_at_call 81; refine LF4.out.mono ?_; rintro e w6 ⟨rfl, rfl⟩)
      | (go_at_call 129; refine (OP.out _).mono ?_; rintro e w7 ⟨rfl, b7⟩))
    go_ret3
    have eR := HR.out
    subst eR
    exact ⟨by simp, then_below B4.out b7⟩
end Go.Proofs.YtcogehhjofgbiaaGreatDoor.wal
