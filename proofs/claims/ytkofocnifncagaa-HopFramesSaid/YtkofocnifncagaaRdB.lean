/-
  The contract of the document's own Reader.Num, at any reader.
-/
import Derived.Test.YtkofocnifncagaaRdA2
set_option linter.unusedSimpArgs false
set_option linter.unusedVariables false
namespace Go.Proofs.Ytkofocnifncagaa.code
open Go.ChangeShapes Go.WideShapes Go.ChangeAt Go.RowKit
open Go.Proofs.Ytkofocnifncagaa.enc Go.Proofs.Ytkofocnifncagaa.block

/-- A reader of the document's: the bytes, how many were read, what is wrong. -/
def RdB (w : World) (g : Nat) (s : ByteArray) (n : Nat) (e : Int) : Prop := Whole w g 127 #[.string s, .int .i64 n, .int .i64 e]
section
variable {w : World} {g : Nat} {s : ByteArray} {n : Nat} {e e' : Int}
theorem RdB.facts (h : RdB w g s n e) :
    w.cell? ⟨g, 0, none⟩ = some (.string s) ∧ w.cell? ⟨g, 1, none⟩ = some (.int .i64 n) ∧ w.cell? ⟨g, 2, none⟩ = some (.int .i64 e) ∧ w.frozen? ⟨g, 0, none⟩ = false ∧ w.frozen? ⟨g, 1, none⟩ = false ∧ w.frozen? ⟨g, 2, none⟩ = false :=
  ⟨h.read 0, h.read 1, h.read 2, h.soft 0, h.soft 1, h.soft 2⟩
theorem RdB.err (h : RdB w g s n e) (e' : Int) : RdB (w.setCell ⟨g, 2, none⟩ (.int .i64 e')) g s n e' := h.store 2 _
theorem RdB.eat (h : RdB w g s n e) {x : Int} {n' : Nat} (hx : x = n') : RdB (w.setCell ⟨g, 1, none⟩ (.int .i64 x)) g s n' e := by subst hx; exact h.store 1 _
end
theorem ret_u64 {a b : Int} (h : a = b) : Ending.returned (.int .u64 a) = .returned (.int .u64 b) := by rw [h]
theorem ret_i64 {a b : Int} (h : a = b) : Ending.returned (.int .i64 a) = .returned (.int .i64 b) := by rw [h]

theorem rNum_zero (l : List UInt8) : rNum l 0 = dec l := by simp [rNum]

set_option maxRecDepth 100000 in
set_option maxHeartbeats 1000000 in
theorem numB_go (g : Nat) (s : ByteArray) (n : Nat) (hs : s.size ≤ 140737488351232) (hn : n ≤ s.size) (w : World) (h : RdB w g s n 0) :
    Calls Try.prog 83 #[.pointer (some ⟨g, 0, none⟩)] w fun r w' => r = .returned (.int .u64 (dec (s.data.toList.drop n)).1) ∧ RdB w' g s (n + (dec (s.data.toList.drop n)).2.1) (dec (s.data.toList.drop n)).2.2 ∧ w.grownBy w' (some g) := by
    obtain ⟨c0, c1, c2, f0, f1, f2⟩ := h.facts
    go_enter Try.func83, Try.ntmps83
    go_wp2
    go_loopw [3, 4] (fun v i wr => ∃ (k : Nat) (acc : Int), n + k ≤ s.size ∧ k ≤ 9 ∧ i = .int .i64 k ∧ v = .int .u64 acc ∧ dec (s.data.toList.drop n) = decL (s.data.toList.drop (n + k)) k acc ∧ RdB wr g s n 0 ∧ w.grownBy wr (some g)) (fun _ i _ => 10 - (intOf i).toNat)
    case atStart => exact ⟨0, 0, hn, by omega, rfl, rfl, rfl, h, World.grownBy.refl w _⟩
    case round =>
      clear c0 c1 c2 f0 f1 f2 h
      obtain ⟨k, acc, hk, hk9, rfl, rfl, hd, h1, g1⟩ := hrel
      obtain ⟨c0, c1, c2, f0, f1, f2⟩ := h1.facts
      have H1 := Lib.hid h1; clear h1
      have G1 := Lib.hid g1; clear g1
      by_cases hlt : n + k < s.size
      · rw [drop_at hlt] at hd
        by_cases hA : 9 ≤ k ∧ 1 < s[n + k].toNat
        · rw [decL, if_pos hA] at hd
          have Hd := Lib.hid hd; clear hd
          obtain ⟨h9, h1⟩ := hA
          go_wp2
          go_quiet (fail)
          go_wp2
          have q1 : IntKind.i64.wrap ((n : Int) + (k : Int)) = (n : Int) + (k : Int) := IntWalk.i64_in _ (by omega)
          have q2 : ((n : Int) + (k : Int)).toNat = n + k := by omega
          have q3 : (0 : Int) ≤ (n : Int) + (k : Int) := by omega
          go_quiet (fail)
          clear q1
          go_wp2
          go_ret
          rw [Hd.out]
          exact ⟨rfl, H1.out.err _, only_drewN (only_store G1.out _) _⟩
        · rw [decL, if_neg hA] at hd
          by_cases hB : 0 < k ∧ s[n + k].toNat < 1
          · rw [if_pos hB] at hd
            have Hd := Lib.hid hd; clear hd hA
            obtain ⟨h9, h1⟩ := hB
            have hz : ((s[n + k].toNat : Int) == 0) = true := by simp; omega
            go_wp2
            go_quiet (fail)
            go_wp2
            have q1 : IntKind.i64.wrap ((n : Int) + (k : Int)) = (n : Int) + (k : Int) := IntWalk.i64_in _ (by omega)
            have q2 : ((n : Int) + (k : Int)).toNat = n + k := by omega
            have q3 : (0 : Int) ≤ (n : Int) + (k : Int) := by omega
            go_quiet (fail)
            clear q1
            go_wp2
            all_goals go_ret
            all_goals rw [Hd.out]
            all_goals exact ⟨rfl, H1.out.err _, only_drewN (only_store G1.out _) _⟩
          · rw [if_neg hB] at hd
            by_cases hC : s[n + k].toNat < 128
            · rw [if_pos hC] at hd
              have Hd := Lib.hid hd; clear hd
              by_cases h9 : 9 ≤ k
              · have h1 : s[n + k].toNat ≤ 1 := by omega
                have hz : ((s[n + k].toNat : Int) == 0) = false := by simp; omega
                clear hA hB
                go_wp2
                go_quiet (fail)
                go_wp2
                have q1 : IntKind.i64.wrap ((n : Int) + (k : Int)) = (n : Int) + (k : Int) := IntWalk.i64_in _ (by omega)
                have q2 : ((n : Int) + (k : Int)).toNat = n + k := by omega
                have q3 : (0 : Int) ≤ (n : Int) + (k : Int) := by omega
                go_quiet (fail)
                clear q1
                go_wp2
                go_ret
                rw [Hd.out]
                exact ⟨ret_u64 (stp_nine ‹_› (by omega)), RdB.eat H1.out (by show _ = ((n + (k + 1) : Nat) : Int); omega), only_drewN (only_store G1.out _) _⟩
              · have hz : 0 < k → ((s[n + k].toNat : Int) == 0) = false := by intro h; simp; omega
                clear hA hB
                go_wp2
                go_quiet (fail)
                go_wp2
                have q1 : IntKind.i64.wrap ((n : Int) + (k : Int)) = (n : Int) + (k : Int) := IntWalk.i64_in _ (by omega)
                have q2 : ((n : Int) + (k : Int)).toNat = n + k := by omega
                have q3 : (0 : Int) ≤ (n : Int) + (k : Int) := by omega
                go_quiet (fail)
                clear q1
                go_wp2
                all_goals go_ret
                all_goals rw [Hd.out]
                all_goals exact ⟨rfl, RdB.eat H1.out (by show _ = ((n + (k + 1) : Nat) : Int); omega), only_drewN (only_store G1.out _) _⟩
            · rw [if_neg hC] at hd
              have Hd := Lib.hid hd; clear hd
              have h1 : k < 9 := by omega
              have hz : 0 < k → ((s[n + k].toNat : Int) == 0) = false := by intro h; simp; omega
              clear hA hB
              go_wp2
              go_quiet (fail)
              go_wp2
              have q1 : IntKind.i64.wrap ((n : Int) + (k : Int)) = (n : Int) + (k : Int) := IntWalk.i64_in _ (by omega)
              have q2 : ((n : Int) + (k : Int)).toNat = n + k := by omega
              have q3 : (0 : Int) ≤ (n : Int) + (k : Int) := by omega
              go_quiet (fail)
              clear q1
              go_wp2
              all_goals go_roundw
              all_goals first | exact ⟨k + 1, _, by omega, by omega, by go_num, rfl, Hd.out, H1.out, only_drewN G1.out _⟩ | (simp [intOf]; omega)
      · rw [drop_end hlt, decL] at hd
        have Hd := Lib.hid hd; clear hd
        go_wp2
        go_quiet (fail)
        go_wp2
        go_ret
        rw [Hd.out]
        exact ⟨rfl, H1.out.err _, only_drewN (only_store G1.out _) _⟩

theorem numB (g : Nat) (s : ByteArray) (n : Nat) (e : Int) (hs : s.size ≤ 140737488351232) (hn : n ≤ s.size) (w : World) (h : RdB w g s n e) :
    Calls Try.prog 83 #[.pointer (some ⟨g, 0, none⟩)] w fun r w' => r = .returned (.int .u64 (rNum (s.data.toList.drop n) e).1) ∧ RdB w' g s (n + (rNum (s.data.toList.drop n) e).2.1) (rNum (s.data.toList.drop n) e).2.2 ∧ w.grownBy w' (some g) := by
  by_cases he : e = 0
  · subst he
    rw [rNum_zero]
    exact numB_go g s n hs hn w h
  · have hr : ∀ l, rNum l e = (0, 0, e) := by intro l; simp [rNum, he]
    rw [hr]; clear hr
    obtain ⟨c0, c1, c2, f0, f1, f2⟩ := h.facts
    have H := Lib.hid h; clear h
    have he' : (e != 0) = true := by simpa using he
    clear he
    go_enter Try.func83, Try.ntmps83
    go_wp2
    go_ret
    exact ⟨rfl, H.out, World.grownBy.refl w _⟩
end Go.Proofs.Ytkofocnifncagaa.code
