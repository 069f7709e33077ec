/-
  The contracts of code.Reader.Int, End and Text, at any reader.
  Frames of a log: a text's frame, and the frame at the front of some bytes (mathematics, and the program's).
-/
import Derived.Test.YtfpmcomigolacaaGreatDoorJRdA
import Derived.Test.YtfpmcomigolacaaGreatDoorJWrite
import Derived.Test.YtfpmcomigolacaaGreatDoorJSum
import Derived.Test.YtfpmcomigolacaaGreatDoorJUf0
import Derived.Deep.DeepCutAuto
import Derived.Test.YtfpmcomigolacaaGreatDoorJWu
set_option linter.unusedSimpArgs false
set_option linter.unusedVariables false
namespace Go.Proofs.YtfpmcomigolacaaGreatDoor.code
open Go.ChangeShapes Go.WideShapes Go.ChangeAt Go.RowKit
open Go.Proofs.YtfpmcomigolacaaGreatDoor.enc Go.Proofs.YtfpmcomigolacaaGreatDoor.block

theorem intA (g : Nat) (l : List UInt8) (e m : Int) (hl : l.length ≤ 9223372036854775807) (hm0 : -9223372036854775808 ≤ m) (hm1 : m ≤ 9223372036854775807) (w : World) (h : RdA w g l e) :
    Calls Tryz.prog 78 #[.pointer (some ⟨g, 0, none⟩), .int .i64 m] w fun r w' => r = .returned (.int .i64 (rInt l e m).1) ∧ RdA w' g (l.drop (rInt l e m).2.1) (rInt l e m).2.2 ∧ w.grownBy w' (some g) := by
  obtain ⟨b0, b1, b2⟩ := rNum_bd l e
  have hN := numA g l e hl w h
  by_cases he : (rNum l e).2.2 = 0
  · by_cases hc : m < 0 ∨ m < (rNum l e).1
    · have hr : rInt l e m = (0, (rNum l e).2.1, 1) := by simp [rInt, he, hc]
      rw [hr]; clear hr
      rw [he] at hN
      generalize rNum l e = r at hN b0 b1 b2 hc
      have HN := Lib.hid hN; clear hN he
      by_cases hc0 : m < 0
      · clear hc
        go_enter Tryz.func78, Tryz.ntmps78
        go_wp2_with fail
        refine HN.out.mono ?_
        rintro e w' ⟨rfl, h1, g1⟩
        obtain ⟨c0, c1, f0, f1⟩ := h1.facts
        go_wp2
        go_ret
        exact ⟨rfl, h1.err _, only_store g1 _⟩
      · have hc1 : m < r.1 := by omega
        clear hc
        go_enter Tryz.func78, Tryz.ntmps78
        go_wp2_with fail
        refine HN.out.mono ?_
        rintro e w' ⟨rfl, h1, g1⟩
        obtain ⟨c0, c1, f0, f1⟩ := h1.facts
        go_wp2
        go_ret
        exact ⟨rfl, h1.err _, only_store g1 _⟩
    · have hr : rInt l e m = rNum l e := by simp only [rInt, he, if_true, if_neg hc]
      rw [hr]; clear hr
      rw [he] at hN
      rw [he]
      generalize rNum l e = r at hN b0 b1 b2 hc
      have HN := Lib.hid hN; clear hN he
      have hc0 : 0 ≤ m := by omega
      have hc1 : r.1 ≤ m := by omega
      clear hc
      go_enter Tryz.func78, Tryz.ntmps78
      go_wp2_with fail
      refine HN.out.mono ?_
      rintro e w' ⟨rfl, h1, g1⟩
      obtain ⟨c0, c1, f0, f1⟩ := h1.facts
      go_wp2
      go_ret
      exact ⟨rfl, h1, g1⟩
  · have hr : rInt l e m = (0, (rNum l e).2.1, (rNum l e).2.2) := by simp only [rInt, if_neg he]
    rw [hr]; clear hr
    have he' : ((rNum l e).2.2 != 0) = true := by simpa using he
    generalize rNum l e = r at hN b0 b1 b2 he'
    have HN := Lib.hid hN; clear hN he
    go_enter Tryz.func78, Tryz.ntmps78
    go_wp2_with fail
    refine HN.out.mono ?_
    rintro e w' ⟨rfl, h1, g1⟩
    obtain ⟨c0, c1, f0, f1⟩ := h1.facts
    go_wp2
    go_ret
    exact ⟨rfl, h1, g1⟩

theorem endA (g : Nat) (l : List UInt8) (e : Int) (w : World) (h : RdA w g l e) :
    Calls Tryz.prog 89 #[.pointer (some ⟨g, 0, none⟩)] w fun r w' => r = .returned (.int .i64 (rEnd l e)) ∧ RdA w' g l (rEnd l e) ∧ w.grownBy w' (some g) := by
  obtain ⟨c0, c1, f0, f1⟩ := h.facts
  have H := Lib.hid h; clear h
  by_cases hl : l.length = 0
  · have hr : rEnd l e = e := by simp [rEnd, hl]
    rw [hr]; clear hr
    obtain rfl : l = [] := List.eq_nil_of_length_eq_zero hl
    clear hl
    go_enter Tryz.func89, Tryz.ntmps89
    go_wp2
    go_ret
    exact ⟨rfl, H.out, World.grownBy.refl w _⟩
  · have hr : rEnd l e = rFail e 7 := by simp [rEnd, hl]
    rw [hr]; clear hr
    have hn : l.isEmpty = false := by cases l <;> simp at hl ⊢
    clear hl
    go_enter Tryz.func89, Tryz.ntmps89
    go_wp2_with fail
    refine (failA g l e 7 _ H.out).mono ?_
    rintro e w' ⟨rfl, h1, g1⟩
    obtain ⟨d0, d1, e0, e1⟩ := h1.facts
    clear c0 c1 f0 f1
    go_wp2
    go_ret
    exact ⟨rfl, h1, g1⟩
theorem rest_take {l : List UInt8} {n : Nat} : (⟨l.toArray⟩ : ByteArray).extract 0 n = ⟨(l.take n).toArray⟩ := by
  apply ByteArray.ext
  simp
end Go.Proofs.YtfpmcomigolacaaGreatDoor.code
set_option linter.unusedSimpArgs false
set_option linter.unusedVariables false
namespace Go.Proofs.YtfpmcomigolacaaGreatDoor.wal
open Go.ChangeShapes Go.WideShapes Go.ChangeAt Go.RowKit
open Go.Proofs.YtfpmcomigolacaaGreatDoor.opened Go.Proofs.YtfpmcomigolacaaGreatDoor.block Go.Proofs.YtfpmcomigolacaaGreatDoor.words Go.Proofs.YtfpmcomigolacaaGreatDoor.enc Go.Proofs.YtfpmcomigolacaaGreatDoor.code Go.Proofs.YtfpmcomigolacaaGreatDoor.crcm Go.Proofs.YtfpmcomigolacaaGreatDoor.crc
set_option maxRecDepth 100000 in
theorem frame_any (s : Bs) (hs : s.length ≤ 100000) (w : World) :
    Calls Tryz.prog 67 #[.string ⟨s.toArray⟩] w fun e w' => e = .returned (.string ⟨(frameL s).toArray⟩) ∧ Below w.heap.size w w' := by
  have hls : (⟨s.toArray⟩ : ByteArray).size = s.length := by show s.toArray.size = _; simp
  have N := Lib.hid (num_any s.length (by omega) w)
  have S := Lib.hid (fun W => seal_any s (by omega) W)
  have e1 : (s.length : Int) % 18446744073709551616 = s.length := by omega
  unfold frameL
  have hap : (⟨(enc s.length).toArray⟩ : ByteArray) ++ (⟨(sealL s).toArray⟩ : ByteArray) = ⟨(enc s.length ++ sealL s).toArray⟩ := ByteArray.ext (by simp)
  rw [← hap]
  have hab : ¬ 9223372036854775807 < (enc s.length).length + (sealL s).length := by have := len_enc s.length; have := sealL_length s; omega
  generalize enc s.length = a at N hap hab ⊢
  generalize sealL s = b at S hap hab ⊢
  clear hap
  go_enter Tryz.func67, Tryz.ntmps67
  go_wp2_with (first
    | (go_at_call 76; refine N.out.mono ?_; rintro e w3 ⟨rfl, b3⟩)
    | (go_at_call 94; refine (S.out _).mono ?_; rintro e w4 ⟨rfl, b4⟩))
  go_ret
  exact ⟨rfl, then_below b3 b4⟩
set_option maxRecDepth 100000 in
set_option maxHeartbeats 2000000 in
theorem unframe_any (s : Bs) (hs : s.length ≤ 10000000) (w : World) :
    Calls Tryz.prog 113 #[.string ⟨s.toArray⟩] w fun e w' => e = .returned (.tuple #[.string ⟨(unfV s).1.toArray⟩, .int .i64 (unfV s).2.1, .bool (unfV s).2.2]) ∧ Below w.heap.size w w' := by
  have hls : (⟨s.toArray⟩ : ByteArray).size = s.length := by show s.toArray.size = _; simp
  have NW := Lib.hid (new_l s w)
  have IN := Lib.hid (fun g W (h : RdA W g s 0) => intA g s 0 4096 (by omega) (by omega) (by omega) W h)
  obtain ⟨q0, q1, q2⟩ := rInt_bd s 0 4096
  have ER := Lib.hid (fun g l e W (h : RdA W g l e) => errA g l e W h)
  have LF := Lib.hid (fun g l e W (h : RdA W g l e) => leftA g l e W h)
  unfold unfV
  generalize (rInt s 0 4096).2.2 = er at IN ⊢
  generalize (rInt s 0 4096).2.1 = u at IN q2 ⊢
  generalize (rInt s 0 4096).1 = n at IN q0 q1 ⊢
  have hn : n ≤ 4096 := by omega
  clear q1
  have hdl : (s.drop u).length = s.length - u := by simp
  obtain ⟨R, hR⟩ : ∃ R, (if er ≠ 0 ∨ ((s.length - u : Nat) : Int) < n + 4 then ([], 0, false)
    else if isSeal ((s.drop u).take (n.toNat + 4)) = true then (openT ((s.drop u).take (n.toNat + 4)), u + 4 + n.toNat, true) else ([], 0, false) : Bs × Nat × Bool) = R := ⟨_, rfl⟩
  rw [hR]
  have HR := Lib.hid hR
  clear hR
  obtain ⟨g, hg⟩ : ∃ g, w.heap.size = g := ⟨_, rfl⟩
  rw [hg] at NW
  have HG := Lib.hid hg
  clear hg
  go_enter Tryz.func113, Tryz.ntmps113
  go_upto_region 3 with (first
    | (go_at_call 77; refine NW.out.mono ?_; rintro e w3 ⟨rfl, hR, b3⟩; have R3 := Lib.hid hR; have B3 := Lib.hid b3; clear hR b3)
    | (go_at_call 78; refine (IN.out _ _ R3.out).mono ?_; rintro e w4 ⟨rfl, hR, b4⟩; have R4 := Lib.hid hR; have B4 := Lib.hid (show Below w.heap.size w w4 from by
        have g1 := B3.out
        exact ⟨b4.os.trans g1.os, b4.tape.trans g1.tape, b4.output.trans g1.output, Nat.le_trans g1.size b4.size, fun k hk => (b4.block k (by have := g1.size; omega) (by intro e; have := HG.out; cases e; omega)).trans (g1.block k hk (by intro e; cases e))⟩); clear hR b4))
  have HLs := Lib.hid hls
  clear NW IN R3 B3
  have ER4 := Lib.hid (ER.out g (s.drop u) er w4 R4.out)
  have LF4 := Lib.hid (LF.out g (s.drop u) er w4 R4.out)
  rw [hdl] at LF4
  clear ER LF
  by_cases he : er = 0
  case neg =>
    have hne : (er == 0) = false := by rw [beq_eq_false_iff_ne]; exact he
    have eR := HR.out
    rw [if_pos (.inl he)] at eR
    subst eR
    go_wp2_with (go_at_call 79; refine ER4.out.mono ?_; rintro e w5 ⟨rfl, rfl⟩)
    go_ret3
    exact ⟨rfl, B4.out⟩
  subst he
  obtain ⟨m, rfl⟩ : ∃ m : Nat, n = m := ⟨n.toNat, by omega⟩
  by_cases hgt : ((s.length - u : Nat) : Int) < (m : Int) + 4
  · have eR := HR.out
    rw [if_pos (.inr hgt)] at eR
    subst eR
    go_wp2_with (first
      | (go_at_call 79; refine ER4.out.mono ?_; rintro e w5 ⟨rfl, rfl⟩)
      | (go_at_call 80; refine LF4.out.mono ?_; rintro e w6 ⟨rfl, rfl⟩))
    go_ret3
    exact ⟨rfl, B4.out⟩
  have eR := HR.out
  rw [if_neg (by rintro (h | h); exact h rfl; exact hgt h), Int.toNat_natCast] at eR
  clear HR
  have hsub : (s.length : Int) - ((s.length - u : Nat) : Int) = (u : Int) := by omega
  have hslc : ∀ W, (Instr.slice 9 (.string ⟨s.toArray⟩) (some (.int .i64 (u : Int))) (some (.int .i64 ((u : Int) + 4 + (m : Int)))) none).run Tryz.prog W = .ok (.string ⟨((s.drop u).take (m + 4)).toArray⟩) W := fun W => by
    have h := slice_str s u (u + 4 + m) (by omega) (by omega) W
    have e1 : (((u + 4 + m : Nat)) : Int) = (u : Int) + 4 + (m : Int) := by omega
    have e2 : u + 4 + m - u = m + 4 := by omega
    rw [e1] at h
    rw [h, extractU, e2]
  have OP := fun W => open_any ((s.drop u).take (m + 4)) (by simp; omega) W
  unfold opened at OP
  generalize (s.drop u).take (m + 4) = t at hslc OP eR
  replace OP := Lib.hid OP
  generalize s.length - u = rest at LF4 hgt hsub
  cases hT : isSeal t
  · rw [hT] at OP
    rw [hT, if_neg (by simp)] at eR
    subst eR
    clear hT
    go_wp2_with (first
      | (go_at_call 79; refine ER4.out.mono ?_; rintro e w5 ⟨rfl, rfl⟩)
      | (go_at_call 80; refine LF4.out.mono ?_; rintro e w6 ⟨rfl, rfl⟩)
      | (go_at_call 128; refine (OP.out _).mono ?_; rintro e w7 ⟨rfl, b7⟩))
    go_ret3
    exact ⟨rfl, then_below B4.out b7⟩
  · rw [hT] at OP
    rw [hT, if_pos rfl] at eR
    generalize openT t = ot at OP eR
    have HR := Lib.hid eR
    clear hT eR
    go_wp2_with (first
      | (go_at_call 79; refine ER4.out.mono ?_; rintro e w5 ⟨rfl, rfl⟩)
      | (go_at_call 80; refine LF4.out.mono ?_; rintro e w6 ⟨rfl, rfl⟩)
      | (go_at_call 128; refine (OP.out _).mono ?_; rintro e w7 ⟨rfl, b7⟩))
    go_ret3
    have eR := HR.out
    subst eR
    exact ⟨by simp, then_below B4.out b7⟩
end Go.Proofs.YtfpmcomigolacaaGreatDoor.wal
