/-
  The walk of HopStale (by gen_hst.py).
-/
import Derived.Test.YtkofocnifncagaaHw2
import Derived.Deep.CutRange
import Derived.Deep.CutBlock
import Derived.LoopTactic
set_option linter.unusedSimpArgs false
set_option linter.unusedVariables false
namespace Go.Proofs.Ytkofocnifncagaa.hop
open Go.ChangeShapes Go.WideShapes Go.ChangeAt Go.RowKit
open Go.Proofs.Ytkofocnifncagaa.opened Go.Proofs.Ytkofocnifncagaa.block Go.Proofs.Ytkofocnifncagaa.words Go.Proofs.Ytkofocnifncagaa.region
set_option maxRecDepth 100000 in
theorem mod_is (n : Int) (q : Nat) (hq : 0 < q) (hq2 : q < 1000000) : ∃ m : Nat, m < q ∧ wrap64 ((IntKind.u64.wrap n).tmod (q : Int)) = (m : Int) := by
  have h0 : 0 ≤ IntKind.u64.wrap n := by rw [IntKind.wrap_u64]; omega
  rw [Int.tmod_eq_emod_of_nonneg h0]
  generalize IntKind.u64.wrap n = z at h0
  have hz0 : 0 ≤ z % (q : Int) := Int.emod_nonneg _ (by omega)
  have hz1 : z % (q : Int) < q := Int.emod_lt_of_pos _ (by omega)
  refine ⟨(z % (q : Int)).toNat, by omega, ?_⟩
  rw [IntWalk.wrap64_in _ ⟨by omega, by omega⟩]
  omega
/-- A sender to which so much was put. -/
structure Stl (a : Int) (j : Nat) (S : Sn) : Prop where
  good : GoodS S
  e : S.e = 5
  a : S.a = a
  l : S.L.length = j
theorem Stl.put {a : Int} {j : Nat} {S : Sn} (h : Stl a j S) (ha : a ≤ 999) (hj : j < 59) (t : Bs) (ht : t.length ≤ 6000) : putE S t = 0 ∧ putN S t = a + 1 + j ∧ Stl a (j + 1) (putV S t) := by
  have h1 := h.e; have h2 := h.a; have h3 := h.l
  have hn : nextV S = a + 1 + j := by unfold nextV; omega
  have he : putE S t = 0 := by unfold putE; rw [if_neg (by omega), if_neg (by rw [hn]; omega)]
  refine ⟨he, by unfold putN; rw [if_pos he, hn], h.good.put t, ?_, ?_, ?_⟩
  · unfold putV; rw [if_pos he]; exact h1
  · unfold putV; rw [if_pos he]; exact h2
  · unfold putV; rw [if_pos he]; show (S.L ++ [_]).length = j + 1; rw [List.length_append]; simp [h3]
theorem Stl.yes {a : Int} {n : Nat} {S : Sn} (h : Stl a n S) {w : Int} (h1 : a < w) (h2 : w ≤ a + n) : ackB S 5 w = true ∧ (ackV S 5 w).a = w ∧ nextV (ackV S 5 w) = a + n + 1 ∧ ((ackV S 5 w).L.length : Int) = a + n - w := by
  have e1 := h.e; have e2 := h.a; have e3 := h.l
  have hb : ackB S 5 w = true := decide_eq_true ⟨e1.symm, by omega, by unfold nextV; omega⟩
  have hl : ((ackV S 5 w).L.length : Int) = a + n - w := by
    unfold ackV
    rw [if_pos hb]
    show ((S.L.drop _).length : Int) = _
    rw [List.length_drop]
    omega
  have ha : (ackV S 5 w).a = w := by rw [ack_a, if_pos hb]
  exact ⟨hb, ha, by unfold nextV; omega, hl⟩
theorem Stl.no {a : Int} {n : Nat} {S : Sn} (h : Stl a n S) {e w : Int} (h1 : ¬ (e = 5 ∧ a < w ∧ w ≤ a + n)) : ackB S e w = false ∧ (ackV S e w).a = a ∧ nextV (ackV S e w) = a + n + 1 ∧ ((ackV S e w).L.length : Int) = n := by
  have e1 := h.e; have e2 := h.a; have e3 := h.l
  have hb : ackB S e w = false := decide_eq_false (fun hx => h1 ⟨by omega, by omega, by have := hx.2.2; unfold nextV at this; omega⟩)
  rw [ack_not hb]
  exact ⟨hb, e2, by unfold nextV; omega, by omega⟩
section
variable {w : World}
set_option maxRecDepth 100000 in
set_option maxHeartbeats 8000000 in
theorem walkStale (nn aa epoch word : Int) : Calls Try.prog 9 #[.int .i64 nn, .int .i64 aa, .int .i64 epoch, .int .i64 word] w fun e w' => e = .returned (.bool true) ∧ Below w.heap.size w w' := by
  have HW := Lib.hid (works_any w)
  obtain ⟨n, hn60, hn⟩ := mod_is nn 60 (by omega) (by omega)
  obtain ⟨a, ha1000, ha⟩ := mod_is aa 1000 (by omega) (by omega)
  go_enter Try.func9, Try.ntmps9
  go_upto_region 4 with (go_at_call 52; refine HW.out.mono ?_; rintro e w1 ⟨rfl, b1⟩; have B1 := Lib.hid b1; clear b1)
  have hn' : wrap64 ((IntKind.u64.wrap nn).tmod 60) = (n : Int) := hn
  have ha' : wrap64 ((IntKind.u64.wrap aa).tmod 1000) = (a : Int) := ha
  rw [hn', ha']
  clear hn hn' ha ha' HW
  generalize (IntKind.u64.wrap nn).tmod 60 = q1
  generalize (IntKind.u64.wrap aa).tmod 1000 = q2
  generalize IntKind.u64.wrap nn = q3
  generalize IntKind.u64.wrap aa = q4
  have hn59 : (n : Int) ≤ 59 := by omega
  have ha999 : (a : Int) ≤ 999 := by omega
  have HNS := Lib.hid (newS_good (w := w1) (e := 5) (a := (a : Int)) (wd := 8) (wt := 4) (by unfold NewOk; omega))
  have HNR := Lib.hid (fun (w2 : World) => newR_good (w := w2) (a : Int) (by omega))
  have S0 : Hid (Stl a 0 (newV 5 (a : Int) 8 4)) := Lib.hid ⟨good_new (by unfold NewOk; omega), rfl, rfl, rfl⟩
  go_upto_region 6 with (first
    | (go_at_call 47; (with_reducible refine (HNR.out w2).mono ?_); rintro e w3 ⟨gr, rfl, b3, h3, r3⟩; have K3 : Hid (WkE w w3 g gr (newV 5 (a : Int) 8 4) ⟨0, a⟩ none 0) := Lib.hid ⟨SnE.lower (S2.out.below b3) B1.out.size, r3, Nat.le_trans B2.out.size h3, then_below B2.out b3⟩; clear b3 h3 r3)
    | (go_at_call 33; (with_reducible refine HNS.out.mono ?_); rintro e w2 ⟨g, rfl, b2, s2⟩; have B2 := Lib.hid (then_below B1.out b2); have S2 := Lib.hid s2; clear b2 s2))
  clear HNS HNR S2 B1 B2
  generalize newV 5 (a : Int) 8 4 = V0 at S0 K3
  go_upto_region 8 with fail
  go_wp2_with fail
  go_loopw [13, 14, 15] (fun i _ _ wr => ∃ (j : Nat) (S : Sn) (A : Option Addr) (c : Nat), j ≤ n ∧ i = .int .i64 (j : Int) ∧ Hid (Stl a j S) ∧ Hid (WkE w wr g gr S ⟨0, a⟩ A c)) (fun i _ _ _ => n - (intOf i).toNat)
  case atStart => exact ⟨0, V0, none, 0, Nat.zero_le _, rfl, S0, K3⟩
  case round =>
    obtain ⟨j, S, A, c, hj, rfl, HS, HK⟩ := hrel
    clear S0 K3
    by_cases h1 : j < n
    · have h1i : (j : Int) < (n : Int) := by omega
      obtain ⟨p1, p2, p3⟩ := HS.out.put (by omega) (by omega) [120] (by simp)
      have HP := Lib.hid (wk_put HK.out HS.out.good [120] (by simp) p2 p1 rfl)
      have H3 := Lib.hid p3
      clear p1 p2 p3
      go_wp2_with (go_at_call 35; (with_reducible refine HP.out.mono ?_); rintro e w5 ⟨rfl, ⟨A5, c5, k5⟩, -⟩; have K5 := Lib.hid k5; clear k5)
      go_roundw
      case rel => exact ⟨j + 1, _, A5, c5, by omega, by go_num, H3, K5⟩
      case measure => simp [intOf]; omega
    · obtain rfl : j = n := by omega
      have h1i : ¬ (j : Int) < (j : Int) := by omega
      by_cases e5 : epoch = 5
      · subst e5
        by_cases h2 : (a : Int) < word
        · by_cases h3 : word ≤ (a : Int) + (j : Int)
          · by_cases w1 : word = (a : Int) + 1
            · subst w1
              obtain ⟨AB, AA, AN, AL⟩ := HS.out.yes (w := ((a : Int) + 1)) (by omega) (by omega)
              have TB : takeB ⟨0, a⟩ 5 ((a : Int) + 1) = true := decide_eq_true ⟨by show (0 : Int) ≤ 5; omega, by show ((a : Int) + 1) = (a : Int) + 1; omega⟩
              have TL : (takeV ⟨0, a⟩ 5 ((a : Int) + 1)).l = ((a : Int) + 1) := by rw [take_l, TB]; show (a : Int) + 1 = ((a : Int) + 1); omega
              have f1 : (a : Int) < ((a : Int) + 1) := by omega
              have f2 : ((a : Int) + 1) ≤ (a : Int) + (j : Int) := by omega
              have HAk := Lib.hid (wk_ack HK.out HS.out.good 5 ((a : Int) + 1) AB rfl)
              have HSt := Lib.hid (fun (w5 : World) (h : WkE w w5 g gr (ackV S 5 ((a : Int) + 1)) ⟨0, a⟩ A c) => wk_state h (HS.out.good.ack 5 ((a : Int) + 1)))
              rw [AA, AN, AL] at HSt
              have HTk := Lib.hid (fun (w5 : World) (h : WkE w w5 g gr (ackV S 5 ((a : Int) + 1)) ⟨0, a⟩ A c) => wk_take (V := takeV ⟨0, a⟩ 5 ((a : Int) + 1)) h (by show (0 : Int) ≤ a; omega) (by show (a : Int) < _; omega) 5 ((a : Int) + 1) TB rfl)
              have HLa := Lib.hid (fun (w5 : World) (h : WkE w w5 g gr (ackV S 5 ((a : Int) + 1)) (takeV ⟨0, a⟩ 5 ((a : Int) + 1)) A c) => wk_last h)
              rw [TL] at HLa
              clear AB AA AN AL TB TL
              generalize ackV S 5 ((a : Int) + 1) = V at HAk HSt HTk HLa
              generalize takeV ⟨0, a⟩ 5 ((a : Int) + 1) = R' at HTk HLa
              go_wp2_with (first
                | (go_at_call 51; (with_reducible refine (HLa.out _ K7.out).mono ?_); rintro e w8 ⟨rfl, k8, -⟩; have K8 := Lib.hid k8; clear k8)
                | (go_at_call 49; (with_reducible refine (HTk.out _ K6.out).mono ?_); rintro e w7 ⟨rfl, k7, -, -⟩; have K7 := Lib.hid k7; clear k7)
                | (go_at_call 45; (with_reducible refine (HSt.out _ K5.out).mono ?_); rintro e w6 ⟨rfl, k6, -⟩; have K6 := Lib.hid k6; clear k6)
                | (go_at_call 37; (with_reducible refine HAk.out.mono ?_); rintro e w5 ⟨rfl, k5, -, -⟩; have K5 := Lib.hid k5; clear k5))
              go_ret
              exact ⟨rfl, K8.out.below⟩
            · obtain ⟨AB, AA, AN, AL⟩ := HS.out.yes (w := word) (by omega) (by omega)
              have TB : takeB ⟨0, a⟩ 5 word = false := decide_eq_false (fun h => by have h1 : (0 : Int) ≤ 5 := h.1; have h2 : word = (a : Int) + 1 := h.2; omega)
              have TL : (takeV ⟨0, a⟩ 5 word).l = (a : Int) := by rw [take_l, TB]; rfl
              have f1 : (a : Int) < word := by omega
              have f2 : word ≤ (a : Int) + (j : Int) := by omega
              have f3 : (word == (a : Int) + 1) = false := by simpa using w1
              have HAk := Lib.hid (wk_ack HK.out HS.out.good 5 word AB rfl)
              have HSt := Lib.hid (fun (w5 : World) (h : WkE w w5 g gr (ackV S 5 word) ⟨0, a⟩ A c) => wk_state h (HS.out.good.ack 5 word))
              rw [AA, AN, AL] at HSt
              have HTk := Lib.hid (fun (w5 : World) (h : WkE w w5 g gr (ackV S 5 word) ⟨0, a⟩ A c) => wk_take (V := takeV ⟨0, a⟩ 5 word) h (by show (0 : Int) ≤ a; omega) (by show (a : Int) < _; omega) 5 word TB rfl)
              have HLa := Lib.hid (fun (w5 : World) (h : WkE w w5 g gr (ackV S 5 word) (takeV ⟨0, a⟩ 5 word) A c) => wk_last h)
              rw [TL] at HLa
              clear AB AA AN AL TB TL
              generalize ackV S 5 word = V at HAk HSt HTk HLa
              generalize takeV ⟨0, a⟩ 5 word = R' at HTk HLa
              go_wp2_with (first
                | (go_at_call 51; (with_reducible refine (HLa.out _ K7.out).mono ?_); rintro e w8 ⟨rfl, k8, -⟩; have K8 := Lib.hid k8; clear k8)
                | (go_at_call 49; (with_reducible refine (HTk.out _ K6.out).mono ?_); rintro e w7 ⟨rfl, k7, -, -⟩; have K7 := Lib.hid k7; clear k7)
                | (go_at_call 45; (with_reducible refine (HSt.out _ K5.out).mono ?_); rintro e w6 ⟨rfl, k6, -⟩; have K6 := Lib.hid k6; clear k6)
                | (go_at_call 37; (with_reducible refine HAk.out.mono ?_); rintro e w5 ⟨rfl, k5, -, -⟩; have K5 := Lib.hid k5; clear k5))
              go_ret
              exact ⟨rfl, K8.out.below⟩
          · by_cases w1 : word = (a : Int) + 1
            · subst w1
              obtain ⟨AB, AA, AN, AL⟩ := HS.out.no (e := 5) (w := ((a : Int) + 1)) (by omega)
              have TB : takeB ⟨0, a⟩ 5 ((a : Int) + 1) = true := decide_eq_true ⟨by show (0 : Int) ≤ 5; omega, by show ((a : Int) + 1) = (a : Int) + 1; omega⟩
              have TL : (takeV ⟨0, a⟩ 5 ((a : Int) + 1)).l = ((a : Int) + 1) := by rw [take_l, TB]; show (a : Int) + 1 = ((a : Int) + 1); omega
              have f1 : (a : Int) < ((a : Int) + 1) := by omega
              have f2 : (a : Int) + (j : Int) < ((a : Int) + 1) := by omega
              have HAk := Lib.hid (wk_ack HK.out HS.out.good 5 ((a : Int) + 1) AB rfl)
              have HSt := Lib.hid (fun (w5 : World) (h : WkE w w5 g gr (ackV S 5 ((a : Int) + 1)) ⟨0, a⟩ A c) => wk_state h (HS.out.good.ack 5 ((a : Int) + 1)))
              rw [AA, AN, AL] at HSt
              have HTk := Lib.hid (fun (w5 : World) (h : WkE w w5 g gr (ackV S 5 ((a : Int) + 1)) ⟨0, a⟩ A c) => wk_take (V := takeV ⟨0, a⟩ 5 ((a : Int) + 1)) h (by show (0 : Int) ≤ a; omega) (by show (a : Int) < _; omega) 5 ((a : Int) + 1) TB rfl)
              have HLa := Lib.hid (fun (w5 : World) (h : WkE w w5 g gr (ackV S 5 ((a : Int) + 1)) (takeV ⟨0, a⟩ 5 ((a : Int) + 1)) A c) => wk_last h)
              rw [TL] at HLa
              clear AB AA AN AL TB TL
              generalize ackV S 5 ((a : Int) + 1) = V at HAk HSt HTk HLa
              generalize takeV ⟨0, a⟩ 5 ((a : Int) + 1) = R' at HTk HLa
              obtain ⟨nx, hnx⟩ : ∃ nx, nx = (a : Int) + (j : Int) + 1 := ⟨_, rfl⟩
              rw [← hnx] at HSt
              have hx1 : nx - 1 - (a : Int) = (j : Int) := by omega
              have hx2 : (a : Int) + (j : Int) + 1 = nx := hnx.symm
              have hx3 : nx ≤ 2000 := by omega
              have hx4 : 1 ≤ nx := by omega
              clear hnx
              go_wp2_with (first
                | (go_at_call 51; (with_reducible refine (HLa.out _ K7.out).mono ?_); rintro e w8 ⟨rfl, k8, -⟩; have K8 := Lib.hid k8; clear k8)
                | (go_at_call 49; (with_reducible refine (HTk.out _ K6.out).mono ?_); rintro e w7 ⟨rfl, k7, -, -⟩; have K7 := Lib.hid k7; clear k7)
                | (go_at_call 45; (with_reducible refine (HSt.out _ K5.out).mono ?_); rintro e w6 ⟨rfl, k6, -⟩; have K6 := Lib.hid k6; clear k6)
                | (go_at_call 37; (with_reducible refine HAk.out.mono ?_); rintro e w5 ⟨rfl, k5, -, -⟩; have K5 := Lib.hid k5; clear k5))
              go_ret
              exact ⟨rfl, K8.out.below⟩
            · obtain ⟨AB, AA, AN, AL⟩ := HS.out.no (e := 5) (w := word) (by omega)
              have TB : takeB ⟨0, a⟩ 5 word = false := decide_eq_false (fun h => by have h1 : (0 : Int) ≤ 5 := h.1; have h2 : word = (a : Int) + 1 := h.2; omega)
              have TL : (takeV ⟨0, a⟩ 5 word).l = (a : Int) := by rw [take_l, TB]; rfl
              have f1 : (a : Int) < word := by omega
              have f2 : (a : Int) + (j : Int) < word := by omega
              have f3 : (word == (a : Int) + 1) = false := by simpa using w1
              have HAk := Lib.hid (wk_ack HK.out HS.out.good 5 word AB rfl)
              have HSt := Lib.hid (fun (w5 : World) (h : WkE w w5 g gr (ackV S 5 word) ⟨0, a⟩ A c) => wk_state h (HS.out.good.ack 5 word))
              rw [AA, AN, AL] at HSt
              have HTk := Lib.hid (fun (w5 : World) (h : WkE w w5 g gr (ackV S 5 word) ⟨0, a⟩ A c) => wk_take (V := takeV ⟨0, a⟩ 5 word) h (by show (0 : Int) ≤ a; omega) (by show (a : Int) < _; omega) 5 word TB rfl)
              have HLa := Lib.hid (fun (w5 : World) (h : WkE w w5 g gr (ackV S 5 word) (takeV ⟨0, a⟩ 5 word) A c) => wk_last h)
              rw [TL] at HLa
              clear AB AA AN AL TB TL
              generalize ackV S 5 word = V at HAk HSt HTk HLa
              generalize takeV ⟨0, a⟩ 5 word = R' at HTk HLa
              obtain ⟨nx, hnx⟩ : ∃ nx, nx = (a : Int) + (j : Int) + 1 := ⟨_, rfl⟩
              rw [← hnx] at HSt
              have hx1 : nx - 1 - (a : Int) = (j : Int) := by omega
              have hx2 : (a : Int) + (j : Int) + 1 = nx := hnx.symm
              have hx3 : nx ≤ 2000 := by omega
              have hx4 : 1 ≤ nx := by omega
              clear hnx
              go_wp2_with (first
                | (go_at_call 51; (with_reducible refine (HLa.out _ K7.out).mono ?_); rintro e w8 ⟨rfl, k8, -⟩; have K8 := Lib.hid k8; clear k8)
                | (go_at_call 49; (with_reducible refine (HTk.out _ K6.out).mono ?_); rintro e w7 ⟨rfl, k7, -, -⟩; have K7 := Lib.hid k7; clear k7)
                | (go_at_call 45; (with_reducible refine (HSt.out _ K5.out).mono ?_); rintro e w6 ⟨rfl, k6, -⟩; have K6 := Lib.hid k6; clear k6)
                | (go_at_call 37; (with_reducible refine HAk.out.mono ?_); rintro e w5 ⟨rfl, k5, -, -⟩; have K5 := Lib.hid k5; clear k5))
              go_ret
              exact ⟨rfl, K8.out.below⟩
        · have w1 : ¬ word = (a : Int) + 1 := by omega
          obtain ⟨AB, AA, AN, AL⟩ := HS.out.no (e := 5) (w := word) (by omega)
          have TB : takeB ⟨0, a⟩ 5 word = false := decide_eq_false (fun h => by have h1 : (0 : Int) ≤ 5 := h.1; have h2 : word = (a : Int) + 1 := h.2; omega)
          have TL : (takeV ⟨0, a⟩ 5 word).l = (a : Int) := by rw [take_l, TB]; rfl
          have f1 : word ≤ (a : Int) := by omega
          have f3 : (word == (a : Int) + 1) = false := by simpa using w1
          have HAk := Lib.hid (wk_ack HK.out HS.out.good 5 word AB rfl)
          have HSt := Lib.hid (fun (w5 : World) (h : WkE w w5 g gr (ackV S 5 word) ⟨0, a⟩ A c) => wk_state h (HS.out.good.ack 5 word))
          rw [AA, AN, AL] at HSt
          have HTk := Lib.hid (fun (w5 : World) (h : WkE w w5 g gr (ackV S 5 word) ⟨0, a⟩ A c) => wk_take (V := takeV ⟨0, a⟩ 5 word) h (by show (0 : Int) ≤ a; omega) (by show (a : Int) < _; omega) 5 word TB rfl)
          have HLa := Lib.hid (fun (w5 : World) (h : WkE w w5 g gr (ackV S 5 word) (takeV ⟨0, a⟩ 5 word) A c) => wk_last h)
          rw [TL] at HLa
          clear AB AA AN AL TB TL
          generalize ackV S 5 word = V at HAk HSt HTk HLa
          generalize takeV ⟨0, a⟩ 5 word = R' at HTk HLa
          obtain ⟨nx, hnx⟩ : ∃ nx, nx = (a : Int) + (j : Int) + 1 := ⟨_, rfl⟩
          rw [← hnx] at HSt
          have hx1 : nx - 1 - (a : Int) = (j : Int) := by omega
          have hx2 : (a : Int) + (j : Int) + 1 = nx := hnx.symm
          have hx3 : nx ≤ 2000 := by omega
          have hx4 : 1 ≤ nx := by omega
          clear hnx
          go_wp2_with (first
            | (go_at_call 51; (with_reducible refine (HLa.out _ K7.out).mono ?_); rintro e w8 ⟨rfl, k8, -⟩; have K8 := Lib.hid k8; clear k8)
            | (go_at_call 49; (with_reducible refine (HTk.out _ K6.out).mono ?_); rintro e w7 ⟨rfl, k7, -, -⟩; have K7 := Lib.hid k7; clear k7)
            | (go_at_call 45; (with_reducible refine (HSt.out _ K5.out).mono ?_); rintro e w6 ⟨rfl, k6, -⟩; have K6 := Lib.hid k6; clear k6)
            | (go_at_call 37; (with_reducible refine HAk.out.mono ?_); rintro e w5 ⟨rfl, k5, -, -⟩; have K5 := Lib.hid k5; clear k5))
          go_ret
          exact ⟨rfl, K8.out.below⟩
      · by_cases h0 : 0 ≤ epoch
        · by_cases w1 : word = (a : Int) + 1
          · subst w1
            obtain ⟨AB, AA, AN, AL⟩ := HS.out.no (e := epoch) (w := ((a : Int) + 1)) (by omega)
            have TB : takeB ⟨0, a⟩ epoch ((a : Int) + 1) = true := decide_eq_true ⟨by show (0 : Int) ≤ epoch; omega, by show ((a : Int) + 1) = (a : Int) + 1; omega⟩
            have TL : (takeV ⟨0, a⟩ epoch ((a : Int) + 1)).l = ((a : Int) + 1) := by rw [take_l, TB]; show (a : Int) + 1 = ((a : Int) + 1); omega
            have f6 : (epoch == 5) = false := by simpa using e5
            have f5 : 0 ≤ epoch := by omega
            have HAk := Lib.hid (wk_ack HK.out HS.out.good epoch ((a : Int) + 1) AB rfl)
            have HSt := Lib.hid (fun (w5 : World) (h : WkE w w5 g gr (ackV S epoch ((a : Int) + 1)) ⟨0, a⟩ A c) => wk_state h (HS.out.good.ack epoch ((a : Int) + 1)))
            rw [AA, AN, AL] at HSt
            have HTk := Lib.hid (fun (w5 : World) (h : WkE w w5 g gr (ackV S epoch ((a : Int) + 1)) ⟨0, a⟩ A c) => wk_take (V := takeV ⟨0, a⟩ epoch ((a : Int) + 1)) h (by show (0 : Int) ≤ a; omega) (by show (a : Int) < _; omega) epoch ((a : Int) + 1) TB rfl)
            have HLa := Lib.hid (fun (w5 : World) (h : WkE w w5 g gr (ackV S epoch ((a : Int) + 1)) (takeV ⟨0, a⟩ epoch ((a : Int) + 1)) A c) => wk_last h)
            rw [TL] at HLa
            clear AB AA AN AL TB TL
            generalize ackV S epoch ((a : Int) + 1) = V at HAk HSt HTk HLa
            generalize takeV ⟨0, a⟩ epoch ((a : Int) + 1) = R' at HTk HLa
            obtain ⟨nx, hnx⟩ : ∃ nx, nx = (a : Int) + (j : Int) + 1 := ⟨_, rfl⟩
            rw [← hnx] at HSt
            have hx1 : nx - 1 - (a : Int) = (j : Int) := by omega
            have hx2 : (a : Int) + (j : Int) + 1 = nx := hnx.symm
            have hx3 : nx ≤ 2000 := by omega
            have hx4 : 1 ≤ nx := by omega
            clear hnx
            go_wp2_with (first
              | (go_at_call 51; (with_reducible refine (HLa.out _ K7.out).mono ?_); rintro e w8 ⟨rfl, k8, -⟩; have K8 := Lib.hid k8; clear k8)
              | (go_at_call 49; (with_reducible refine (HTk.out _ K6.out).mono ?_); rintro e w7 ⟨rfl, k7, -, -⟩; have K7 := Lib.hid k7; clear k7)
              | (go_at_call 45; (with_reducible refine (HSt.out _ K5.out).mono ?_); rintro e w6 ⟨rfl, k6, -⟩; have K6 := Lib.hid k6; clear k6)
              | (go_at_call 37; (with_reducible refine HAk.out.mono ?_); rintro e w5 ⟨rfl, k5, -, -⟩; have K5 := Lib.hid k5; clear k5))
            go_ret
            exact ⟨rfl, K8.out.below⟩
          · obtain ⟨AB, AA, AN, AL⟩ := HS.out.no (e := epoch) (w := word) (by omega)
            have TB : takeB ⟨0, a⟩ epoch word = false := decide_eq_false (fun h => by have h1 : (0 : Int) ≤ epoch := h.1; have h2 : word = (a : Int) + 1 := h.2; omega)
            have TL : (takeV ⟨0, a⟩ epoch word).l = (a : Int) := by rw [take_l, TB]; rfl
            have f6 : (epoch == 5) = false := by simpa using e5
            have f5 : 0 ≤ epoch := by omega
            have f3 : (word == (a : Int) + 1) = false := by simpa using w1
            have HAk := Lib.hid (wk_ack HK.out HS.out.good epoch word AB rfl)
            have HSt := Lib.hid (fun (w5 : World) (h : WkE w w5 g gr (ackV S epoch word) ⟨0, a⟩ A c) => wk_state h (HS.out.good.ack epoch word))
            rw [AA, AN, AL] at HSt
            have HTk := Lib.hid (fun (w5 : World) (h : WkE w w5 g gr (ackV S epoch word) ⟨0, a⟩ A c) => wk_take (V := takeV ⟨0, a⟩ epoch word) h (by show (0 : Int) ≤ a; omega) (by show (a : Int) < _; omega) epoch word TB rfl)
            have HLa := Lib.hid (fun (w5 : World) (h : WkE w w5 g gr (ackV S epoch word) (takeV ⟨0, a⟩ epoch word) A c) => wk_last h)
            rw [TL] at HLa
            clear AB AA AN AL TB TL
            generalize ackV S epoch word = V at HAk HSt HTk HLa
            generalize takeV ⟨0, a⟩ epoch word = R' at HTk HLa
            obtain ⟨nx, hnx⟩ : ∃ nx, nx = (a : Int) + (j : Int) + 1 := ⟨_, rfl⟩
            rw [← hnx] at HSt
            have hx1 : nx - 1 - (a : Int) = (j : Int) := by omega
            have hx2 : (a : Int) + (j : Int) + 1 = nx := hnx.symm
            have hx3 : nx ≤ 2000 := by omega
            have hx4 : 1 ≤ nx := by omega
            clear hnx
            go_wp2_with (first
              | (go_at_call 51; (with_reducible refine (HLa.out _ K7.out).mono ?_); rintro e w8 ⟨rfl, k8, -⟩; have K8 := Lib.hid k8; clear k8)
              | (go_at_call 49; (with_reducible refine (HTk.out _ K6.out).mono ?_); rintro e w7 ⟨rfl, k7, -, -⟩; have K7 := Lib.hid k7; clear k7)
              | (go_at_call 45; (with_reducible refine (HSt.out _ K5.out).mono ?_); rintro e w6 ⟨rfl, k6, -⟩; have K6 := Lib.hid k6; clear k6)
              | (go_at_call 37; (with_reducible refine HAk.out.mono ?_); rintro e w5 ⟨rfl, k5, -, -⟩; have K5 := Lib.hid k5; clear k5))
            go_ret
            exact ⟨rfl, K8.out.below⟩
        · obtain ⟨AB, AA, AN, AL⟩ := HS.out.no (e := epoch) (w := word) (by omega)
          have TB : takeB ⟨0, a⟩ epoch word = false := decide_eq_false (fun h => by have h1 : (0 : Int) ≤ epoch := h.1; have h2 : word = (a : Int) + 1 := h.2; omega)
          have TL : (takeV ⟨0, a⟩ epoch word).l = (a : Int) := by rw [take_l, TB]; rfl
          have f6 : (epoch == 5) = false := by simpa using e5
          have f5 : epoch < 0 := by omega
          have HAk := Lib.hid (wk_ack HK.out HS.out.good epoch word AB rfl)
          have HSt := Lib.hid (fun (w5 : World) (h : WkE w w5 g gr (ackV S epoch word) ⟨0, a⟩ A c) => wk_state h (HS.out.good.ack epoch word))
          rw [AA, AN, AL] at HSt
          have HTk := Lib.hid (fun (w5 : World) (h : WkE w w5 g gr (ackV S epoch word) ⟨0, a⟩ A c) => wk_take (V := takeV ⟨0, a⟩ epoch word) h (by show (0 : Int) ≤ a; omega) (by show (a : Int) < _; omega) epoch word TB rfl)
          have HLa := Lib.hid (fun (w5 : World) (h : WkE w w5 g gr (ackV S epoch word) (takeV ⟨0, a⟩ epoch word) A c) => wk_last h)
          rw [TL] at HLa
          clear AB AA AN AL TB TL
          generalize ackV S epoch word = V at HAk HSt HTk HLa
          generalize takeV ⟨0, a⟩ epoch word = R' at HTk HLa
          obtain ⟨nx, hnx⟩ : ∃ nx, nx = (a : Int) + (j : Int) + 1 := ⟨_, rfl⟩
          rw [← hnx] at HSt
          have hx1 : nx - 1 - (a : Int) = (j : Int) := by omega
          have hx2 : (a : Int) + (j : Int) + 1 = nx := hnx.symm
          have hx3 : nx ≤ 2000 := by omega
          have hx4 : 1 ≤ nx := by omega
          clear hnx
          go_wp2_with (first
            | (go_at_call 51; (with_reducible refine (HLa.out _ K7.out).mono ?_); rintro e w8 ⟨rfl, k8, -⟩; have K8 := Lib.hid k8; clear k8)
            | (go_at_call 49; (with_reducible refine (HTk.out _ K6.out).mono ?_); rintro e w7 ⟨rfl, k7, -, -⟩; have K7 := Lib.hid k7; clear k7)
            | (go_at_call 45; (with_reducible refine (HSt.out _ K5.out).mono ?_); rintro e w6 ⟨rfl, k6, -⟩; have K6 := Lib.hid k6; clear k6)
            | (go_at_call 37; (with_reducible refine HAk.out.mono ?_); rintro e w5 ⟨rfl, k5, -, -⟩; have K5 := Lib.hid k5; clear k5))
          go_ret
          exact ⟨rfl, K8.out.below⟩
end
end Go.Proofs.Ytkofocnifncagaa.hop
