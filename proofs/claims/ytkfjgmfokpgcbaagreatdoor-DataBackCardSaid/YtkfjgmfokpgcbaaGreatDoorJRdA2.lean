/-
  The contracts of code.Reader.Int, End and Text, at any reader.
  The contracts of stamp.Read and watershedref04.Read, at any reader.
-/
import Derived.Test.YtkfjgmfokpgcbaaGreatDoorJRd
import Derived.Test.YtkfjgmfokpgcbaaGreatDoorJMv
namespace Go.Proofs.YtkfjgmfokpgcbaaGreatDoor.code
open Go.ChangeShapes Go.WideShapes Go.ChangeAt Go.RowKit
open Go.Proofs.YtkfjgmfokpgcbaaGreatDoor.enc Go.Proofs.YtkfjgmfokpgcbaaGreatDoor.block

theorem intA (g : Nat) (l : List UInt8) (e m : Int) (hl : l.length ≤ 9223372036854775807) (hm0 : -9223372036854775808 ≤ m) (hm1 : m ≤ 9223372036854775807) (w : World) (h : RdA w g l e) :
    Calls Tryz.prog 31 #[.pointer (some ⟨g, 0, none⟩), .int .i64 m] w fun r w' => r = .returned (.int .i64 (rInt l e m).1) ∧ RdA w' g (l.drop (rInt l e m).2.1) (rInt l e m).2.2 ∧ w.grownBy w' (some g) := by
  obtain ⟨b0, b1, b2⟩ := rNum_bd l e
  have hN := numA g l e hl w h
  by_cases he : (rNum l e).2.2 = 0
  · by_cases hc : m < 0 ∨ m < (rNum l e).1
    · have hr : rInt l e m = (0, (rNum l e).2.1, 1) := by simp [rInt, he, hc]
      rw [hr]; clear hr
      rw [he] at hN
      generalize rNum l e = r at hN b0 b1 b2 hc
      have HN := Lib.hid hN; clear hN he
      by_cases hc0 : m < 0
      · clear hc
        go_enter Tryz.func31, Tryz.ntmps31
        go_wp2_with fail
        refine HN.out.mono ?_
        rintro e w' ⟨rfl, h1, g1⟩
        obtain ⟨c0, c1, f0, f1⟩ := h1.facts
        go_wp2
        go_ret
        exact ⟨rfl, h1.err _, only_store g1 _⟩
      · have hc1 : m < r.1 := by omega
        clear hc
        go_enter Tryz.func31, Tryz.ntmps31
        go_wp2_with fail
        refine HN.out.mono ?_
        rintro e w' ⟨rfl, h1, g1⟩
        obtain ⟨c0, c1, f0, f1⟩ := h1.facts
        go_wp2
        go_ret
        exact ⟨rfl, h1.err _, only_store g1 _⟩
    · have hr : rInt l e m = rNum l e := by simp only [rInt, he, if_true, if_neg hc]
      rw [hr]; clear hr
      rw [he] at hN
      rw [he]
      generalize rNum l e = r at hN b0 b1 b2 hc
      have HN := Lib.hid hN; clear hN he
      have hc0 : 0 ≤ m := by omega
      have hc1 : r.1 ≤ m := by omega
      clear hc
      go_enter Tryz.func31, Tryz.ntmps31
      go_wp2_with fail
      refine HN.out.mono ?_
      rintro e w' ⟨rfl, h1, g1⟩
      obtain ⟨c0, c1, f0, f1⟩ := h1.facts
      go_wp2
      go_ret
      exact ⟨rfl, h1, g1⟩
  · have hr : rInt l e m = (0, (rNum l e).2.1, (rNum l e).2.2) := by simp only [rInt, if_neg he]
    rw [hr]; clear hr
    have he' : ((rNum l e).2.2 != 0) = true := by simpa using he
    generalize rNum l e = r at hN b0 b1 b2 he'
    have HN := Lib.hid hN; clear hN he
    go_enter Tryz.func31, Tryz.ntmps31
    go_wp2_with fail
    refine HN.out.mono ?_
    rintro e w' ⟨rfl, h1, g1⟩
    obtain ⟨c0, c1, f0, f1⟩ := h1.facts
    go_wp2
    go_ret
    exact ⟨rfl, h1, g1⟩

theorem rest_take {l : List UInt8} {n : Nat} : (⟨l.toArray⟩ : ByteArray).extract 0 n = ⟨(l.take n).toArray⟩ := by
  apply ByteArray.ext
  simp
end Go.Proofs.YtkfjgmfokpgcbaaGreatDoor.code
namespace Go.Proofs.YtkfjgmfokpgcbaaGreatDoor.stamp
open Go.ChangeShapes Go.WideShapes Go.ChangeAt Go.RowKit
open Go.Proofs.YtkfjgmfokpgcbaaGreatDoor.tm Go.Proofs.YtkfjgmfokpgcbaaGreatDoor.opened Go.Proofs.YtkfjgmfokpgcbaaGreatDoor.block Go.Proofs.YtkfjgmfokpgcbaaGreatDoor.enc Go.Proofs.YtkfjgmfokpgcbaaGreatDoor.code

/-- One number more is read: what it is, what is left, what is wrong. -/
def nx (q : List UInt8 × Int) (m : Int) : Int × List UInt8 × Int := ((rInt q.1 q.2 m).1, q.1.drop (rInt q.1 q.2 m).2.1, (rInt q.1 q.2 m).2.2)
theorem nx_bd (q : List UInt8 × Int) {m : Int} (hm : 0 ≤ m) : 0 ≤ (nx q m).1 ∧ (nx q m).1 ≤ m ∧ (nx q m).2.1.length ≤ q.1.length := by
  have := rInt_bd q.1 q.2 m
  unfold nx
  simp only [List.length_drop]
  omega
/-- What has been read, of a time and of the bytes. -/
def st0 (q : List UInt8 × Int) : Tm × List UInt8 × Int := (⟨(nx (nx q 3).2 1048576).1, (nx q 3).1, 0, 0, 0⟩, (nx (nx q 3).2 1048576).2)
def st1 (q : List UInt8 × Int) : Tm × List UInt8 × Int := (⟨(st0 q).1.e, (st0 q).1.d, (nx (st0 q).2 1048576).1, 0, 0⟩, (nx (st0 q).2 1048576).2)
def st2 (q : List UInt8 × Int) : Tm × List UInt8 × Int := (⟨(st1 q).1.e, (st1 q).1.d, (st1 q).1.a, (nx (st1 q).2 1048576).1, 0⟩, (nx (st1 q).2 1048576).2)
def st3 (q : List UInt8 × Int) : Tm × List UInt8 × Int := (⟨(st2 q).1.e, (st2 q).1.d, (st2 q).1.a, (st2 q).1.b, (nx (st2 q).2 1048576).1⟩, (nx (st2 q).2 1048576).2)
def stt (q : List UInt8 × Int) : Nat → Tm × List UInt8 × Int
  | 0 => st0 q
  | 1 => st1 q
  | 2 => st2 q
  | _ => st3 q
def rdS (q : List UInt8 × Int) : Tm × List UInt8 × Int := stt q (nx q 3).1.toNat
def rdT (q : List UInt8 × Int) : Tm := if (rdS q).2.2 = 0 then (rdS q).1 else T0
theorem stt_d (q : List UInt8 × Int) (k : Nat) : (stt q k).1.d = (nx q 3).1 := by
  match k with
  | 0 => rfl
  | 1 => rfl
  | 2 => rfl
  | _ + 3 => rfl
theorem stt_len (q : List UInt8 × Int) (k : Nat) : (stt q k).2.1.length ≤ q.1.length := by
  have h0 : (stt q 0).2.1.length ≤ q.1.length := by
    have a := (nx_bd q (m := 3) (by omega)).2.2
    have b := (nx_bd (nx q 3).2 (m := 1048576) (by omega)).2.2
    exact Nat.le_trans b a
  have h1 : (stt q 1).2.1.length ≤ q.1.length := Nat.le_trans (nx_bd (stt q 0).2 (m := 1048576) (by omega)).2.2 h0
  have h2 : (stt q 2).2.1.length ≤ q.1.length := Nat.le_trans (nx_bd (stt q 1).2 (m := 1048576) (by omega)).2.2 h1
  match k with
  | 0 => exact h0
  | 1 => exact h1
  | 2 => exact h2
  | _ + 3 => exact Nat.le_trans (nx_bd (stt q 2).2 (m := 1048576) (by omega)).2.2 h2
/-- A reader of the program, by what is left and what is wrong. -/
def QA (w : World) (g : Nat) (q : List UInt8 × Int) : Prop := RdA w g q.1 q.2
theorem QA.inside {w : World} {g : Nat} {q : List UInt8 × Int} (h : QA w g q) : g < w.heap.size := Whole.inside h
theorem QA.alloc {w : World} {g : Nat} {q : List UInt8 × Int} (h : QA w g q) (o : Obj) : QA (w.alloc o) g q := Whole.alloc h o
theorem QA.aside {w : World} {g : Nat} {q : List UInt8 × Int} (h : QA w g q) {p : Addr} (hp : g ≠ p.block) (u : Value) : QA (w.setCell p u) g q := Whole.aside h hp u
theorem stepA (g : Nat) (q : List UInt8 × Int) (m : Int) (hl : q.1.length ≤ 9223372036854775807) (hm0 : -9223372036854775808 ≤ m) (hm1 : m ≤ 9223372036854775807) (w : World) (h : QA w g q) :
    Calls Tryz.prog 31 #[.pointer (some ⟨g, 0, none⟩), .int .i64 m] w fun r w' => r = .returned (.int .i64 (nx q m).1) ∧ QA w' g (nx q m).2 ∧ w.grownBy w' (some g) := intA g q.1 q.2 m hl hm0 hm1 w h
theorem errQA (g : Nat) (q : List UInt8 × Int) (w : World) (h : QA w g q) : Calls Tryz.prog 35 #[.pointer (some ⟨g, 0, none⟩)] w fun r w' => r = .returned (.int .i64 q.2) ∧ w = w' := errA g q.1 q.2 w h
theorem only_new {a w : World} {row : Option Nat} (h : a.grownBy w row) {p : Addr} (hp : a.heap.size ≤ p.block) (u : Value) : a.grownBy (w.setCell p u) row :=
  ⟨h.os, h.tape, h.output, by simpa [World.setCell] using h.size, fun k hk hne => (Below.heap_setCell w p u k (by omega)).trans (h.block k hk hne)⟩
theorem only_five {a w : World} {row : Option Nat} (h : a.grownBy w row) {k : Nat} (hk : a.heap.size ≤ k) (v0 v1 v2 v3 v4 : Value) :
    a.grownBy (((((w.setCell ⟨k, 0, none⟩ v0).setCell ⟨k, 1, none⟩ v1).setCell ⟨k, 2, none⟩ v2).setCell ⟨k, 3, none⟩ v3).setCell ⟨k, 4, none⟩ v4) row :=
  only_new (only_new (only_new (only_new (only_new h (p := ⟨k, 0, none⟩) hk v0) (p := ⟨k, 1, none⟩) hk v1) (p := ⟨k, 2, none⟩) hk v2) (p := ⟨k, 3, none⟩) hk v3) (p := ⟨k, 4, none⟩) hk v4
theorem five' {w : World} {g : Nat} {a b c d e : Value} (h : Whole w g 41 #[a, b, c, d, e]) (v0 v1 v2 v3 v4 : Value) :
    Whole (((((w.setCell ⟨g, 0, none⟩ v0).setCell ⟨g, 1, none⟩ v1).setCell ⟨g, 2, none⟩ v2).setCell ⟨g, 3, none⟩ v3).setCell ⟨g, 4, none⟩ v4) g 41 #[v0, v1, v2, v3, v4] := ((((h.store 0 v0).store 1 v1).store 2 v2).store 3 v3).store 4 v4
theorem QA.five {w : World} {g : Nat} {q : List UInt8 × Int} (h : QA w g q) {k : Nat} (hk : g ≠ k) (v0 v1 v2 v3 v4 : Value) :
    QA (((((w.setCell ⟨k, 0, none⟩ v0).setCell ⟨k, 1, none⟩ v1).setCell ⟨k, 2, none⟩ v2).setCell ⟨k, 3, none⟩ v3).setCell ⟨k, 4, none⟩ v4) g q := ((((h.aside (p := ⟨k, 0, none⟩) hk v0).aside (p := ⟨k, 1, none⟩) hk v1).aside (p := ⟨k, 2, none⟩) hk v2).aside (p := ⟨k, 3, none⟩) hk v3).aside (p := ⟨k, 4, none⟩) hk v4
theorem ret_tm {a b : Tm} (h : a = b) : Ending.returned (.agg #[.int .u32 a.e, .int .i64 a.d, .int .u32 a.a, .int .u32 a.b, .int .u32 a.c]) = .returned (.agg #[.int .u32 b.e, .int .i64 b.d, .int .u32 b.a, .int .u32 b.b, .int .u32 b.c]) := by rw [h]
set_option maxRecDepth 100000 in
set_option maxHeartbeats 2000000 in
theorem readA (g : Nat) (q : List UInt8 × Int) (hl : q.1.length ≤ 9223372036854775807) (w : World) (h : QA w g q) :
    Calls Tryz.prog 32 #[.pointer (some ⟨g, 0, none⟩)] w fun r w' => r = .returned (.agg #[.int .u32 (rdT q).e, .int .i64 (rdT q).d, .int .u32 (rdT q).a, .int .u32 (rdT q).b, .int .u32 (rdT q).c]) ∧ QA w' g (rdS q).2 ∧ w.grownBy w' (some g) := by
  obtain ⟨m0, m1, ml⟩ := nx_bd q (m := 3) (by omega)
  obtain ⟨e0, e1, -⟩ := nx_bd (nx q 3).2 (m := 1048576) (by omega)
  have hg := h.inside
  go_enter Tryz.func32, Tryz.ntmps32
  go_wp2_with fail
  refine (stepA g q 3 hl (by omega) (by omega) _ (by exact h.alloc _)).mono ?_
  rintro r w1 ⟨rfl, q1, g1⟩
  have r1 : Whole w1 w.heap.size 41 #[.int .u32 0, .int .i64 0, .int .u32 0, .int .u32 0, .int .u32 0] := (Whole.fresh w 41 _).grown g1 (by simp; omega)
  have o1 : w.grownBy w1 (some g) := only_trans (only_alloc (World.grownBy.refl w _) _) g1
  clear g1 h
  go_wp2_with fail
  refine (stepA g (nx q 3).2 1048576 (Nat.le_trans ml hl) (by omega) (by omega) _ (by exact q1.alloc _)).mono ?_
  rintro r w2 ⟨rfl, q2, g2⟩
  have hp : w.heap.size < w1.heap.size := r1.inside
  have p2 : Whole w2 w1.heap.size 41 #[.int .u32 (⟨0, (nx q 3).1, 0, 0, 0⟩ : Tm).e, .int .i64 (⟨0, (nx q 3).1, 0, 0, 0⟩ : Tm).d, .int .u32 (⟨0, (nx q 3).1, 0, 0, 0⟩ : Tm).a, .int .u32 (⟨0, (nx q 3).1, 0, 0, 0⟩ : Tm).b, .int .u32 (⟨0, (nx q 3).1, 0, 0, 0⟩ : Tm).c] := (Whole.fresh w1 41 _).grown g2 (by simp; omega)
  have r2 : Whole w2 w.heap.size 41 #[.int .u32 0, .int .i64 0, .int .u32 0, .int .u32 0, .int .u32 0] := (r1.alloc _).grown g2 (by simp; omega)
  have o2 : w.grownBy w2 (some g) := only_trans (only_alloc o1 _) g2
  clear g2 q1 r1 o1
  generalize w1.heap.size = p at hp p2 ⊢
  generalize hr : w.heap.size = r at hp r2 hg ⊢
  have HR := Lib.hid hr
  clear hr
  have x1 : ¬ p = g := by omega
  have x2 : ¬ g = p := by omega
  have x3 : ¬ r = g := by omega
  have x4 : ¬ g = r := by omega
  have x5 : ¬ r = p := by omega
  have x6 : ¬ p = r := by omega
  have rp : r ≤ p := by omega
  obtain ⟨pp0, pp1, pp2, pp3, pp4, ppf0, ppf1, ppf2, ppf3, ppf4⟩ := facts5' p2
  go_wp2_with fail
  clear pp0 pp1 pp2 pp3 pp4 ppf0 ppf1 ppf2 ppf3 ppf4
  go_loopw [14] (fun i wr => ∃ k : Nat, (k : Int) ≤ (nx q 3).1 ∧ i = .int .i64 k ∧ Whole wr p 41 #[.int .u32 ((stt q k).1).e, .int .i64 ((stt q k).1).d, .int .u32 ((stt q k).1).a, .int .u32 ((stt q k).1).b, .int .u32 ((stt q k).1).c] ∧ Whole wr r 41 #[.int .u32 0, .int .i64 0, .int .u32 0, .int .u32 0, .int .u32 0] ∧ QA wr g (stt q k).2 ∧ w.grownBy wr (some g)) (fun i _ => (3 - intOf i).toNat)
  case atStart => exact ⟨0, m0, rfl, p2.store 0 _, r2.aside (by simp; omega) _, q2.aside (by simp; omega) _, only_new o2 (by have := HR.out; simp; omega) _⟩
  case round =>
    clear p2 r2 q2 o2
    obtain ⟨k, hk, rfl, hp, hr, hq, ho⟩ := hrel
    have hd := stt_d q k
    rw [hd] at hp
    clear hd
    by_cases hkd : (k : Int) < (nx q 3).1
    · obtain rfl | rfl | rfl : k = 0 ∨ k = 1 ∨ k = 2 := by omega
      · have hn := nx_bd (stt q 0).2 (m := 1048576) (by omega)
        obtain ⟨n0, n1, -⟩ := hn
        obtain ⟨pp0, pp1, pp2, pp3, pp4, ppf0, ppf1, ppf2, ppf3, ppf4⟩ := facts5' hp
        go_wp2_with fail
        refine (stepA g (stt q 0).2 1048576 (Nat.le_trans (stt_len q 0) hl) (by omega) (by omega) _ (by exact hq)).mono ?_
        rintro r w4 ⟨rfl, q4, g4⟩
        have p4 := hp.grown g4 (by simp; omega)
        have r4 := hr.grown g4 (by simp; omega)
        clear pp0 pp1 pp2 pp3 pp4 ppf0 ppf1 ppf2 ppf3 ppf4
        obtain ⟨pp0, pp1, pp2, pp3, pp4, ppf0, ppf1, ppf2, ppf3, ppf4⟩ := facts5' p4
        go_wp2_with fail
        go_roundw
        case rel => exact ⟨1, by omega, by go_num, p4.store 2 _, r4.aside (by simp; omega) _, q4.aside (by simp; omega) _, only_new (only_trans ho g4) (by have := HR.out; simp; omega) _⟩
        case measure => simp [intOf]
      · have hn := nx_bd (stt q 1).2 (m := 1048576) (by omega)
        obtain ⟨n0, n1, -⟩ := hn
        obtain ⟨pp0, pp1, pp2, pp3, pp4, ppf0, ppf1, ppf2, ppf3, ppf4⟩ := facts5' hp
        go_wp2_with fail
        refine (stepA g (stt q 1).2 1048576 (Nat.le_trans (stt_len q 1) hl) (by omega) (by omega) _ (by exact hq)).mono ?_
        rintro r w4 ⟨rfl, q4, g4⟩
        have p4 := hp.grown g4 (by simp; omega)
        have r4 := hr.grown g4 (by simp; omega)
        clear pp0 pp1 pp2 pp3 pp4 ppf0 ppf1 ppf2 ppf3 ppf4
        obtain ⟨pp0, pp1, pp2, pp3, pp4, ppf0, ppf1, ppf2, ppf3, ppf4⟩ := facts5' p4
        go_wp2_with fail
        go_roundw
        case rel => exact ⟨2, by omega, by go_num, p4.store 3 _, r4.aside (by simp; omega) _, q4.aside (by simp; omega) _, only_new (only_trans ho g4) (by have := HR.out; simp; omega) _⟩
        case measure => simp [intOf]
      · have hn := nx_bd (stt q 2).2 (m := 1048576) (by omega)
        obtain ⟨n0, n1, -⟩ := hn
        obtain ⟨pp0, pp1, pp2, pp3, pp4, ppf0, ppf1, ppf2, ppf3, ppf4⟩ := facts5' hp
        go_wp2_with fail
        refine (stepA g (stt q 2).2 1048576 (Nat.le_trans (stt_len q 2) hl) (by omega) (by omega) _ (by exact hq)).mono ?_
        rintro r w4 ⟨rfl, q4, g4⟩
        have p4 := hp.grown g4 (by simp; omega)
        have r4 := hr.grown g4 (by simp; omega)
        clear pp0 pp1 pp2 pp3 pp4 ppf0 ppf1 ppf2 ppf3 ppf4
        obtain ⟨pp0, pp1, pp2, pp3, pp4, ppf0, ppf1, ppf2, ppf3, ppf4⟩ := facts5' p4
        go_wp2_with fail
        go_roundw
        case rel => exact ⟨3, by omega, by go_num, p4.store 4 _, r4.aside (by simp; omega) _, q4.aside (by simp; omega) _, only_new (only_trans ho g4) (by have := HR.out; simp; omega) _⟩
        case measure => simp [intOf]
    · have hkk : k = (nx q 3).1.toNat := by omega
      have hS : rdS q = stt q k := by unfold rdS; rw [hkk]
      have hd := stt_d q k
      generalize stt q k = P at hp hq hS hd
      have HS := Lib.hid hS
      have HD := Lib.hid hd
      clear hS hd hkk
      obtain ⟨pp0, pp1, pp2, pp3, pp4, ppf0, ppf1, ppf2, ppf3, ppf4⟩ := facts5' hp
      obtain ⟨rr0, rr1, rr2, rr3, rr4, rrf0, rrf1, rrf2, rrf3, rrf4⟩ := facts5' hr
      by_cases he : P.2.2 = 0
      · have hne : (P.2.2 != 0) = false := by simpa using he
        have HE := Lib.hid he
        clear he
        go_wp2_with (go_at_call 35; refine (errQA _ _ _ (by exact hq)).mono ?_; rintro e w5 ⟨rfl, rfl⟩)
        exact bodyPost_ret (v := .agg #[.int .u32 P.1.e, .int .i64 (nx q 3).1, .int .u32 P.1.a, .int .u32 P.1.b, .int .u32 P.1.c]) (by obtain ⟨z0, z1, z2, z3, z4, -⟩ := facts5' (five' hr (.int .u32 P.1.e) (.int .i64 (nx q 3).1) (.int .u32 P.1.a) (.int .u32 P.1.b) (.int .u32 P.1.c)); simp [results, Tryz.results32, go_sem, z0, z1, z2, z3, z4]) rfl ⟨by rw [← HD.out]; exact ret_tm (by unfold rdT; rw [HS.out, if_pos HE.out]), by rw [HS.out]; exact hq.five x4 _ _ _ _ _, only_five ho (by have := HR.out; omega) _ _ _ _ _⟩
      · have hne : (P.2.2 != 0) = true := by simpa using he
        have HE := Lib.hid he
        clear he
        go_wp2_with (go_at_call 35; refine (errQA _ _ _ (by exact hq)).mono ?_; rintro e w5 ⟨rfl, rfl⟩)
        exact bodyPost_ret (v := .agg #[.int .u32 0, .int .i64 0, .int .u32 0, .int .u32 0, .int .u32 0]) (by obtain ⟨z0, z1, z2, z3, z4, -⟩ := facts5' (five' hr (.int .u32 0) (.int .i64 0) (.int .u32 0) (.int .u32 0) (.int .u32 0)); simp [results, Tryz.results32, go_sem, z0, z1, z2, z3, z4]) rfl ⟨(ret_tm (a := T0) (b := rdT q) (by unfold rdT; rw [HS.out, if_neg HE.out])), by rw [HS.out]; exact hq.five x4 _ _ _ _ _, only_five ho (by have := HR.out; omega) _ _ _ _ _⟩
end Go.Proofs.YtkfjgmfokpgcbaaGreatDoor.stamp
