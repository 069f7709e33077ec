/-
  The contract of watershedref05.Then where it is not refused at once: the walk.
-/
import Derived.Test.YtilkdpobkcocoaaThR0
namespace Go.Proofs.Ytilkdpobkcocoaa.path
open Go.ChangeShapes Go.WideShapes Go.ChangeAt Go.RowKit
open Go.Proofs.Ytilkdpobkcocoaa.tm Go.Proofs.Ytilkdpobkcocoaa.opened Go.Proofs.Ytilkdpobkcocoaa.block Go.Proofs.Ytilkdpobkcocoaa.stamp Go.Proofs.Ytilkdpobkcocoaa.pa

/-- What is made, behind so many rounds of the first loop. -/
def S1 (f K : Int) (s0 s1 s2 s3 : Int) : Nat → Array Value
  | 0 => #[.int .i64 f, .int .i64 K, .int .u32 0, .int .u32 0, .int .u32 0, .int .u32 0, .int .i64 0, .int .u32 0, .int .u32 0, .int .u32 0]
  | 1 => #[.int .i64 f, .int .i64 K, .int .u32 s0, .int .u32 0, .int .u32 0, .int .u32 0, .int .i64 0, .int .u32 0, .int .u32 0, .int .u32 0]
  | 2 => #[.int .i64 f, .int .i64 K, .int .u32 s0, .int .u32 s1, .int .u32 0, .int .u32 0, .int .i64 0, .int .u32 0, .int .u32 0, .int .u32 0]
  | 3 => #[.int .i64 f, .int .i64 K, .int .u32 s0, .int .u32 s1, .int .u32 s2, .int .u32 0, .int .i64 0, .int .u32 0, .int .u32 0, .int .u32 0]
  | _ => #[.int .i64 f, .int .i64 K, .int .u32 s0, .int .u32 s1, .int .u32 s2, .int .u32 s3, .int .i64 0, .int .u32 0, .int .u32 0, .int .u32 0]
/-- .. behind so many pushes. -/
def S2 (f K e0 e1 e2 e3 c0 c1 c2 : Int) : Nat → Array Value
  | 0 => #[.int .i64 f, .int .i64 K, .int .u32 e0, .int .u32 e1, .int .u32 e2, .int .u32 e3, .int .i64 0, .int .u32 0, .int .u32 0, .int .u32 0]
  | 1 => #[.int .i64 f, .int .i64 K, .int .u32 e0, .int .u32 e1, .int .u32 e2, .int .u32 e3, .int .i64 1, .int .u32 c0, .int .u32 0, .int .u32 0]
  | 2 => #[.int .i64 f, .int .i64 K, .int .u32 e0, .int .u32 e1, .int .u32 e2, .int .u32 e3, .int .i64 2, .int .u32 c0, .int .u32 c1, .int .u32 0]
  | _ => #[.int .i64 f, .int .i64 K, .int .u32 e0, .int .u32 e1, .int .u32 e2, .int .u32 e3, .int .i64 3, .int .u32 c0, .int .u32 c1, .int .u32 c2]
theorem S1_form {f K s0 s1 s2 s3 : Int} {i : Nat} (hi : 1 ≤ i) (h4 : i ≤ 4) : S1 f K s0 s1 s2 s3 i = S2 f K s0 (if 1 < i then s1 else 0) (if 2 < i then s2 else 0) (if 3 < i then s3 else 0) 0 0 0 0 := by
  obtain rfl | rfl | rfl | rfl : i = 1 ∨ i = 2 ∨ i = 3 ∨ i = 4 := by omega
  all_goals simp [S1, S2]
theorem S2_zero (f K e0 e1 e2 e3 a b c a' b' c' : Int) : S2 f K e0 e1 e2 e3 a b c 0 = S2 f K e0 e1 e2 e3 a' b' c' 0 := rfl
set_option maxRecDepth 100000 in
set_option maxHeartbeats 16000000 in
theorem thenR_walk (f k p0 p1 p2 p3 u l0 l1 l2 qf qk q0 q1 q2 q3 qu r0 r1 r2 K c0 c1 c2 d : Int) (V : Pa) (c : Int) (G : Int) (VV : Pa)
    (A : Hid (∀ w, Calls Try.prog 37 #[.agg #[.int .i64 (Pa.mk f k p0 p1 p2 p3 u l0 l1 l2).f, .int .i64 (Pa.mk f k p0 p1 p2 p3 u l0 l1 l2).k, .int .u32 (Pa.mk f k p0 p1 p2 p3 u l0 l1 l2).p0, .int .u32 (Pa.mk f k p0 p1 p2 p3 u l0 l1 l2).p1, .int .u32 (Pa.mk f k p0 p1 p2 p3 u l0 l1 l2).p2, .int .u32 (Pa.mk f k p0 p1 p2 p3 u l0 l1 l2).p3, .int .i64 (Pa.mk f k p0 p1 p2 p3 u l0 l1 l2).u, .int .u32 (Pa.mk f k p0 p1 p2 p3 u l0 l1 l2).l0, .int .u32 (Pa.mk f k p0 p1 p2 p3 u l0 l1 l2).l1, .int .u32 (Pa.mk f k p0 p1 p2 p3 u l0 l1 l2).l2]] w fun e w' => e = .returned (.int .i64 0) ∧ Below w.heap.size w w'))
    (B : Hid (∀ w, Calls Try.prog 37 #[.agg #[.int .i64 (Pa.mk qf qk q0 q1 q2 q3 qu r0 r1 r2).f, .int .i64 (Pa.mk qf qk q0 q1 q2 q3 qu r0 r1 r2).k, .int .u32 (Pa.mk qf qk q0 q1 q2 q3 qu r0 r1 r2).p0, .int .u32 (Pa.mk qf qk q0 q1 q2 q3 qu r0 r1 r2).p1, .int .u32 (Pa.mk qf qk q0 q1 q2 q3 qu r0 r1 r2).p2, .int .u32 (Pa.mk qf qk q0 q1 q2 q3 qu r0 r1 r2).p3, .int .i64 (Pa.mk qf qk q0 q1 q2 q3 qu r0 r1 r2).u, .int .u32 (Pa.mk qf qk q0 q1 q2 q3 qu r0 r1 r2).l0, .int .u32 (Pa.mk qf qk q0 q1 q2 q3 qu r0 r1 r2).l1, .int .u32 (Pa.mk qf qk q0 q1 q2 q3 qu r0 r1 r2).l2]] w fun e w' => e = .returned (.int .i64 0) ∧ Below w.heap.size w w'))
    (T : Hid (∀ w, Calls Try.prog 40 #[.agg #[.int .i64 (Pa.mk f k p0 p1 p2 p3 u l0 l1 l2).f, .int .i64 (Pa.mk f k p0 p1 p2 p3 u l0 l1 l2).k, .int .u32 (Pa.mk f k p0 p1 p2 p3 u l0 l1 l2).p0, .int .u32 (Pa.mk f k p0 p1 p2 p3 u l0 l1 l2).p1, .int .u32 (Pa.mk f k p0 p1 p2 p3 u l0 l1 l2).p2, .int .u32 (Pa.mk f k p0 p1 p2 p3 u l0 l1 l2).p3, .int .i64 (Pa.mk f k p0 p1 p2 p3 u l0 l1 l2).u, .int .u32 (Pa.mk f k p0 p1 p2 p3 u l0 l1 l2).l0, .int .u32 (Pa.mk f k p0 p1 p2 p3 u l0 l1 l2).l1, .int .u32 (Pa.mk f k p0 p1 p2 p3 u l0 l1 l2).l2]] w fun e w' => e = .returned (.int .i64 d) ∧ Below w.heap.size w w'))
    (X : Hid (∀ w, Calls Try.prog 37 #[.agg #[.int .i64 V.f, .int .i64 V.k, .int .u32 V.p0, .int .u32 V.p1, .int .u32 V.p2, .int .u32 V.p3, .int .i64 V.u, .int .u32 V.l0, .int .u32 V.l1, .int .u32 V.l2]] w fun e w' => e = .returned (.int .i64 c) ∧ Below w.heap.size w w'))
    (E00 : Hid (k = 0 → 0 < qk → l0 + q1 = c0))
    (E01 : Hid (k = 0 → 1 < qk → l1 + q2 = c1))
    (E02 : Hid (k = 0 → 2 < qk → l2 + q3 = c2))
    (E10 : Hid (k = 1 → 1 < qk → l0 + q2 = c0))
    (E11 : Hid (k = 1 → 2 < qk → l1 + q3 = c1))
    (E20 : Hid (k = 2 → 2 < qk → l0 + q3 = c0))
    (F00 : Hid (qk ≤ k → 0 < qu → r0 = c0))
    (F01 : Hid (qk ≤ k → 1 < qu → r1 = c1))
    (F02 : Hid (qk ≤ k → 2 < qu → r2 = c2))
    (F10 : Hid (qk = k + 1 → 0 < qu → r0 = c1))
    (F11 : Hid (qk = k + 1 → 1 < qu → r1 = c2))
    (F20 : Hid (qk = k + 2 → 0 < qu → r0 = c2))
    (hd : (d != qf) = false) (hm : minI k qk = K) (HK : Hid (K = minI k qk))
    (k0 : 0 ≤ k) (k3 : k ≤ 3) (qk0 : 0 ≤ qk) (qk3 : qk ≤ 3) (qu0 : 0 ≤ qu) (qu3 : qu ≤ 3 - qk)
    (p00 : 0 ≤ p0) (p01 : p0 ≤ 1048576) (p10 : 0 ≤ p1) (p11 : p1 ≤ 1048576) (p20 : 0 ≤ p2) (p21 : p2 ≤ 1048576) (p30 : 0 ≤ p3) (p31 : p3 ≤ 1048576) (l00 : 0 ≤ l0) (l01 : l0 ≤ 1048576) (l10 : 0 ≤ l1) (l11 : l1 ≤ 1048576) (l20 : 0 ≤ l2) (l21 : l2 ≤ 1048576) (q00 : 0 ≤ q0) (q01 : q0 ≤ 1048576) (q10 : 0 ≤ q1) (q11 : q1 ≤ 1048576) (q20 : 0 ≤ q2) (q21 : q2 ≤ 1048576) (q30 : 0 ≤ q3) (q31 : q3 ≤ 1048576) (_r00 : 0 ≤ r0) (_r01 : r0 ≤ 1048576) (_r10 : 0 ≤ r1) (_r11 : r1 ≤ 1048576) (_r20 : 0 ≤ r2) (_r21 : r2 ≤ 1048576)
    (HV : Hid (∀ N : Nat, (N : Int) = (if k ≤ qk then qk - k else 0) + qu → S2 f K (p0 + q0) (if 1 ≤ K then p1 + q1 else 0) (if 2 ≤ K then p2 + q2 else 0) (if 3 ≤ K then p3 + q3 else 0) c0 c1 c2 N = #[.int .i64 V.f, .int .i64 V.k, .int .u32 V.p0, .int .u32 V.p1, .int .u32 V.p2, .int .u32 V.p3, .int .i64 V.u, .int .u32 V.l0, .int .u32 V.l1, .int .u32 V.l2]))
    (hc : Hid ((c = 0 ∧ G = 0 ∧ VV = V) ∨ (c ≠ 0 ∧ G = 9 ∧ VV = P0))) (w : World) :
    Calls Try.prog 12 #[.agg #[.int .i64 (Pa.mk f k p0 p1 p2 p3 u l0 l1 l2).f, .int .i64 (Pa.mk f k p0 p1 p2 p3 u l0 l1 l2).k, .int .u32 (Pa.mk f k p0 p1 p2 p3 u l0 l1 l2).p0, .int .u32 (Pa.mk f k p0 p1 p2 p3 u l0 l1 l2).p1, .int .u32 (Pa.mk f k p0 p1 p2 p3 u l0 l1 l2).p2, .int .u32 (Pa.mk f k p0 p1 p2 p3 u l0 l1 l2).p3, .int .i64 (Pa.mk f k p0 p1 p2 p3 u l0 l1 l2).u, .int .u32 (Pa.mk f k p0 p1 p2 p3 u l0 l1 l2).l0, .int .u32 (Pa.mk f k p0 p1 p2 p3 u l0 l1 l2).l1, .int .u32 (Pa.mk f k p0 p1 p2 p3 u l0 l1 l2).l2], .agg #[.int .i64 (Pa.mk qf qk q0 q1 q2 q3 qu r0 r1 r2).f, .int .i64 (Pa.mk qf qk q0 q1 q2 q3 qu r0 r1 r2).k, .int .u32 (Pa.mk qf qk q0 q1 q2 q3 qu r0 r1 r2).p0, .int .u32 (Pa.mk qf qk q0 q1 q2 q3 qu r0 r1 r2).p1, .int .u32 (Pa.mk qf qk q0 q1 q2 q3 qu r0 r1 r2).p2, .int .u32 (Pa.mk qf qk q0 q1 q2 q3 qu r0 r1 r2).p3, .int .i64 (Pa.mk qf qk q0 q1 q2 q3 qu r0 r1 r2).u, .int .u32 (Pa.mk qf qk q0 q1 q2 q3 qu r0 r1 r2).l0, .int .u32 (Pa.mk qf qk q0 q1 q2 q3 qu r0 r1 r2).l1, .int .u32 (Pa.mk qf qk q0 q1 q2 q3 qu r0 r1 r2).l2]] w (Gives VV G w) := by
  have h0 := PQR.fresh w 26 (Pa.mk f k p0 p1 p2 p3 u l0 l1 l2) (Pa.mk qf qk q0 q1 q2 q3 qu r0 r1 r2)
  have hmin : ∀ (ts : Array TypeId) (t : TypeId) (W : World), (Builtin.min_ ts t #[.int .i64 k, .int .i64 qk]).run Try.prog W = .ok (.int .i64 K) W := fun ts t W => by rw [run_min64, hm]
  dsimp only at h0 A B T ⊢
  go_enter Try.func12, Try.ntmps12
  go_wp2_with fail
  refine (A.out _).mono ?_
  rintro e w1 ⟨rfl, b1⟩
  have h1 := h0.below b1
  clear b1 h0
  generalize w.heap.size = g at h1 ⊢
  obtain ⟨qc, qf'⟩ := all_of h1.two
  go_wp2_with fail
  refine (B.out _).mono ?_
  rintro e w2 ⟨rfl, b2⟩
  have h2 := h1.below b2
  clear b2 h1 qc qf'
  go_upto_region 4 with fail
  obtain ⟨s1, s2⟩ := h2.since2
  refine region_since w2 (by kernel_rfl) (by kernel_rfl) (Below.refl _ _) ?_
  repeat (go_big_quiet_step ((go_at_call 40; with_reducible exact since_call T.out _)))
  refine wpQuiet_nil ?_
  rintro w3 ⟨x', hw⟩
  have h3 := h2.below (hw ▸ x'.2)
  clear hw x' s1 s2 h2
  obtain ⟨pc, pf⟩ := all_of h3.one
  obtain ⟨qc, qf2⟩ := all_of h3.two
  go_wp2_with fail
  clear pc pf qc qf2
  have H := h3.alloc (.cells #[.int .i64 f, .int .i64 K, .int .u32 0, .int .u32 0, .int .u32 0, .int .u32 0, .int .i64 0, .int .u32 0, .int .u32 0, .int .u32 0] 26)
  have O : Whole (w3.alloc (.cells #[.int .i64 f, .int .i64 K, .int .u32 0, .int .u32 0, .int .u32 0, .int .u32 0, .int .i64 0, .int .u32 0, .int .u32 0, .int .u32 0] 26)) w3.heap.size 26 (S1 f K (p0 + q0) (p1 + q1) (p2 + q2) (p3 + q3) 0) := Whole.fresh w3 26 _
  have hn : g + 1 + 1 < w3.heap.size := h3.res.inside
  clear h3 hmin
  generalize w3.alloc (.cells #[.int .i64 f, .int .i64 K, .int .u32 0, .int .u32 0, .int .u32 0, .int .u32 0, .int .i64 0, .int .u32 0, .int .u32 0, .int .u32 0] 26) = W at H O ⊢
  generalize w3.heap.size = n at O hn ⊢
  clear w3
  have K0 : 0 ≤ K := by have := HK.out; unfold minI at this; split at this <;> omega
  have K3 : K ≤ 3 := by have := HK.out; unfold minI at this; split at this <;> omega
  clear hm
  go_loopw [8] (fun s wx => ∃ i : Nat, (i : Int) ≤ K + 1 ∧ s = .int .i64 i ∧ PQR w wx g 26 (Pa.mk f k p0 p1 p2 p3 u l0 l1 l2) (Pa.mk qf qk q0 q1 q2 q3 qu r0 r1 r2) ∧ Whole wx n 26 (S1 f K (p0 + q0) (p1 + q1) (p2 + q2) (p3 + q3) i)) (fun s _ => (K + 1).toNat - (intOf s).toNat)
  case atStart => exact ⟨0, by omega, rfl, H, O⟩
  case round =>
    clear H O
    obtain ⟨i, hi, rfl, H, O⟩ := hrel
    by_cases hlt : (i : Int) ≤ K
    · obtain rfl | rfl | rfl | rfl : i = 0 ∨ i = 1 ∨ i = 2 ∨ i = 3 := by omega
      · have O : Whole wr n 26 #[.int .i64 f, .int .i64 K, .int .u32 0, .int .u32 0, .int .u32 0, .int .u32 0, .int .i64 0, .int .u32 0, .int .u32 0, .int .u32 0] := O
        have pc := H.one.read
        have qc := H.two.read
        have oc := O.read
        have of := O.soft
        go_wp2_with fail
        go_region
        have H' := H.aside (i := 2) hn (.int .u32 (p0 + q0))
        have O' : Whole (wr.setCell ⟨n, 2, none⟩ (.int .u32 (p0 + q0))) n 26 #[.int .i64 f, .int .i64 K, .int .u32 (p0 + q0), .int .u32 0, .int .u32 0, .int .u32 0, .int .i64 0, .int .u32 0, .int .u32 0, .int .u32 0] := by simpa using O.store 2 (.int .u32 (p0 + q0))
        clear pc qc oc of H O
        go_wp2_with fail
        go_roundw
        case rel => exact ⟨1, by omega, by go_num, H'.drew, O'⟩
        case measure => simp [intOf]; omega
      · have O : Whole wr n 26 #[.int .i64 f, .int .i64 K, .int .u32 (p0 + q0), .int .u32 0, .int .u32 0, .int .u32 0, .int .i64 0, .int .u32 0, .int .u32 0, .int .u32 0] := O
        have pc := H.one.read
        have qc := H.two.read
        have oc := O.read
        have of := O.soft
        go_wp2_with fail
        go_region
        have H' := H.aside (i := 3) hn (.int .u32 (p1 + q1))
        have O' : Whole (wr.setCell ⟨n, 3, none⟩ (.int .u32 (p1 + q1))) n 26 #[.int .i64 f, .int .i64 K, .int .u32 (p0 + q0), .int .u32 (p1 + q1), .int .u32 0, .int .u32 0, .int .i64 0, .int .u32 0, .int .u32 0, .int .u32 0] := by simpa using O.store 3 (.int .u32 (p1 + q1))
        clear pc qc oc of H O
        go_wp2_with fail
        go_roundw
        case rel => exact ⟨2, by omega, by go_num, H'.drew, O'⟩
        case measure => simp [intOf]; omega
      · have O : Whole wr n 26 #[.int .i64 f, .int .i64 K, .int .u32 (p0 + q0), .int .u32 (p1 + q1), .int .u32 0, .int .u32 0, .int .i64 0, .int .u32 0, .int .u32 0, .int .u32 0] := O
        have pc := H.one.read
        have qc := H.two.read
        have oc := O.read
        have of := O.soft
        go_wp2_with fail
        go_region
        have H' := H.aside (i := 4) hn (.int .u32 (p2 + q2))
        have O' : Whole (wr.setCell ⟨n, 4, none⟩ (.int .u32 (p2 + q2))) n 26 #[.int .i64 f, .int .i64 K, .int .u32 (p0 + q0), .int .u32 (p1 + q1), .int .u32 (p2 + q2), .int .u32 0, .int .i64 0, .int .u32 0, .int .u32 0, .int .u32 0] := by simpa using O.store 4 (.int .u32 (p2 + q2))
        clear pc qc oc of H O
        go_wp2_with fail
        go_roundw
        case rel => exact ⟨3, by omega, by go_num, H'.drew, O'⟩
        case measure => simp [intOf]; omega
      · have O : Whole wr n 26 #[.int .i64 f, .int .i64 K, .int .u32 (p0 + q0), .int .u32 (p1 + q1), .int .u32 (p2 + q2), .int .u32 0, .int .i64 0, .int .u32 0, .int .u32 0, .int .u32 0] := O
        have pc := H.one.read
        have qc := H.two.read
        have oc := O.read
        have of := O.soft
        go_wp2_with fail
        go_region
        have H' := H.aside (i := 5) hn (.int .u32 (p3 + q3))
        have O' : Whole (wr.setCell ⟨n, 5, none⟩ (.int .u32 (p3 + q3))) n 26 #[.int .i64 f, .int .i64 K, .int .u32 (p0 + q0), .int .u32 (p1 + q1), .int .u32 (p2 + q2), .int .u32 (p3 + q3), .int .i64 0, .int .u32 0, .int .u32 0, .int .u32 0] := by simpa using O.store 5 (.int .u32 (p3 + q3))
        clear pc qc oc of H O
        go_wp2_with fail
        go_roundw
        case rel => exact ⟨4, by omega, by go_num, H'.drew, O'⟩
        case measure => simp [intOf]; omega
    · have hk : (i : Int) = K + 1 := by omega
      rw [S1_form (by omega) (by omega)] at O
      have HI := Lib.hid hk
      clear hk hi
      obtain ⟨e1, he1⟩ : ∃ x, (if 1 < i then p1 + q1 else 0) = x := ⟨_, rfl⟩
      obtain ⟨e2, he2⟩ : ∃ x, (if 2 < i then p2 + q2 else 0) = x := ⟨_, rfl⟩
      obtain ⟨e3, he3⟩ : ∃ x, (if 3 < i then p3 + q3 else 0) = x := ⟨_, rfl⟩
      rw [he1, he2, he3, S2_zero _ _ _ _ _ _ _ _ _ c0 c1 c2] at O
      have HE := Lib.hid (And.intro he1 (And.intro he2 he3))
      clear he1 he2 he3
      obtain ⟨e0, he0⟩ : ∃ x, p0 + q0 = x := ⟨_, rfl⟩
      rw [he0] at O
      have HE0 := Lib.hid he0
      clear he0
      have pc := H.one.read
      have oc : ∀ j, wr.cell? ⟨n, j, none⟩ = (#[.int .i64 f, .int .i64 K, .int .u32 e0, .int .u32 e1, .int .u32 e2, .int .u32 e3, .int .i64 0, .int .u32 0, .int .u32 0, .int .u32 0] : Array Value)[j]? := O.read
      go_wp2_with fail
      clear pc oc
      have OO : ∃ m : Nat, m = 0 ∧ Whole wr n 26 (S2 f K e0 e1 e2 e3 c0 c1 c2 m) := ⟨0, rfl, O⟩
      go_loopw [9] (fun s wx => ∃ m : Nat, (m = 0 ∨ k + m ≤ qk) ∧ s = .int .i64 (k + m) ∧ PQR w wx g 26 (Pa.mk f k p0 p1 p2 p3 u l0 l1 l2) (Pa.mk qf qk q0 q1 q2 q3 qu r0 r1 r2) ∧ Whole wx n 26 (S2 f K e0 e1 e2 e3 c0 c1 c2 m)) (fun s _ => 3 - (intOf s).toNat)
      case atStart => exact ⟨0, .inl rfl, by simp, H, O⟩
      case round =>
        clear H O OO
        obtain ⟨m, hm, rfl, H, O⟩ := hrel
        by_cases hlt2 : k + (m : Int) < qk
        · obtain ⟨rfl, rfl⟩ | ⟨rfl, rfl⟩ | ⟨rfl, rfl⟩ | ⟨rfl, rfl⟩ | ⟨rfl, rfl⟩ | ⟨rfl, rfl⟩ : (k = 0 ∧ m = 0) ∨ (k = 0 ∧ m = 1) ∨ (k = 0 ∧ m = 2) ∨ (k = 1 ∧ m = 0) ∨ (k = 1 ∧ m = 1) ∨ (k = 2 ∧ m = 0) := by omega
          · have e := E00.out rfl (by omega)
            have pc := H.one.read
            have qc := H.two.read
            have oc : ∀ j, wr.cell? ⟨n, j, none⟩ = (#[.int .i64 f, .int .i64 K, .int .u32 e0, .int .u32 e1, .int .u32 e2, .int .u32 e3, .int .i64 0, .int .u32 0, .int .u32 0, .int .u32 0] : Array Value)[j]? := O.read
            have of := O.soft
            go_wp2_with fail
            go_region
            have H' := H.aside (i := 7) hn (.int .u32 c0)
            have O' : Whole (wr.setCell ⟨n, 7, none⟩ (.int .u32 c0)) n 26 #[.int .i64 f, .int .i64 K, .int .u32 e0, .int .u32 e1, .int .u32 e2, .int .u32 e3, .int .i64 0, .int .u32 c0, .int .u32 0, .int .u32 0] := by
              have := O.store 7 (.int .u32 c0)
              simpa [S2] using this
            clear pc qc oc of H O
            generalize wr.setCell ⟨n, 7, none⟩ (.int .u32 c0) = W2 at H' O' ⊢
            have oc := O'.read
            have of := O'.soft
            go_wp2_with fail
            have H := H'.aside (i := 6) hn (.int .i64 1)
            have O : Whole (W2.setCell ⟨n, 6, none⟩ (.int .i64 1)) n 26 #[.int .i64 f, .int .i64 K, .int .u32 e0, .int .u32 e1, .int .u32 e2, .int .u32 e3, .int .i64 1, .int .u32 c0, .int .u32 0, .int .u32 0] := by simpa using O'.store 6 (.int .i64 1)
            clear oc of H' O'
            go_roundw
            case rel => exact ⟨1, .inr (by omega), by go_num, H.drew, O⟩
            case measure => simp [intOf]; try omega
          · have e := E01.out rfl (by omega)
            have pc := H.one.read
            have qc := H.two.read
            have oc : ∀ j, wr.cell? ⟨n, j, none⟩ = (#[.int .i64 f, .int .i64 K, .int .u32 e0, .int .u32 e1, .int .u32 e2, .int .u32 e3, .int .i64 1, .int .u32 c0, .int .u32 0, .int .u32 0] : Array Value)[j]? := O.read
            have of := O.soft
            go_wp2_with fail
            go_region
            have H' := H.aside (i := 8) hn (.int .u32 c1)
            have O' : Whole (wr.setCell ⟨n, 8, none⟩ (.int .u32 c1)) n 26 #[.int .i64 f, .int .i64 K, .int .u32 e0, .int .u32 e1, .int .u32 e2, .int .u32 e3, .int .i64 1, .int .u32 c0, .int .u32 c1, .int .u32 0] := by
              have := O.store 8 (.int .u32 c1)
              simpa [S2] using this
            clear pc qc oc of H O
            generalize wr.setCell ⟨n, 8, none⟩ (.int .u32 c1) = W2 at H' O' ⊢
            have oc := O'.read
            have of := O'.soft
            go_wp2_with fail
            have H := H'.aside (i := 6) hn (.int .i64 2)
            have O : Whole (W2.setCell ⟨n, 6, none⟩ (.int .i64 2)) n 26 #[.int .i64 f, .int .i64 K, .int .u32 e0, .int .u32 e1, .int .u32 e2, .int .u32 e3, .int .i64 2, .int .u32 c0, .int .u32 c1, .int .u32 0] := by simpa using O'.store 6 (.int .i64 2)
            clear oc of H' O'
            go_roundw
            case rel => exact ⟨2, .inr (by omega), by go_num, H.drew, O⟩
            case measure => simp [intOf]; try omega
          · have e := E02.out rfl (by omega)
            have pc := H.one.read
            have qc := H.two.read
            have oc : ∀ j, wr.cell? ⟨n, j, none⟩ = (#[.int .i64 f, .int .i64 K, .int .u32 e0, .int .u32 e1, .int .u32 e2, .int .u32 e3, .int .i64 2, .int .u32 c0, .int .u32 c1, .int .u32 0] : Array Value)[j]? := O.read
            have of := O.soft
            go_wp2_with fail
            go_region
            have H' := H.aside (i := 9) hn (.int .u32 c2)
            have O' : Whole (wr.setCell ⟨n, 9, none⟩ (.int .u32 c2)) n 26 #[.int .i64 f, .int .i64 K, .int .u32 e0, .int .u32 e1, .int .u32 e2, .int .u32 e3, .int .i64 2, .int .u32 c0, .int .u32 c1, .int .u32 c2] := by
              have := O.store 9 (.int .u32 c2)
              simpa [S2] using this
            clear pc qc oc of H O
            generalize wr.setCell ⟨n, 9, none⟩ (.int .u32 c2) = W2 at H' O' ⊢
            have oc := O'.read
            have of := O'.soft
            go_wp2_with fail
            have H := H'.aside (i := 6) hn (.int .i64 3)
            have O : Whole (W2.setCell ⟨n, 6, none⟩ (.int .i64 3)) n 26 #[.int .i64 f, .int .i64 K, .int .u32 e0, .int .u32 e1, .int .u32 e2, .int .u32 e3, .int .i64 3, .int .u32 c0, .int .u32 c1, .int .u32 c2] := by simpa using O'.store 6 (.int .i64 3)
            clear oc of H' O'
            go_roundw
            case rel => exact ⟨3, .inr (by omega), by go_num, H.drew, O⟩
            case measure => simp [intOf]; try omega
          · have e := E10.out rfl (by omega)
            have pc := H.one.read
            have qc := H.two.read
            have oc : ∀ j, wr.cell? ⟨n, j, none⟩ = (#[.int .i64 f, .int .i64 K, .int .u32 e0, .int .u32 e1, .int .u32 e2, .int .u32 e3, .int .i64 0, .int .u32 0, .int .u32 0, .int .u32 0] : Array Value)[j]? := O.read
            have of := O.soft
            go_wp2_with fail
            go_region
            have H' := H.aside (i := 7) hn (.int .u32 c0)
            have O' : Whole (wr.setCell ⟨n, 7, none⟩ (.int .u32 c0)) n 26 #[.int .i64 f, .int .i64 K, .int .u32 e0, .int .u32 e1, .int .u32 e2, .int .u32 e3, .int .i64 0, .int .u32 c0, .int .u32 0, .int .u32 0] := by
              have := O.store 7 (.int .u32 c0)
              simpa [S2] using this
            clear pc qc oc of H O
            generalize wr.setCell ⟨n, 7, none⟩ (.int .u32 c0) = W2 at H' O' ⊢
            have oc := O'.read
            have of := O'.soft
            go_wp2_with fail
            have H := H'.aside (i := 6) hn (.int .i64 1)
            have O : Whole (W2.setCell ⟨n, 6, none⟩ (.int .i64 1)) n 26 #[.int .i64 f, .int .i64 K, .int .u32 e0, .int .u32 e1, .int .u32 e2, .int .u32 e3, .int .i64 1, .int .u32 c0, .int .u32 0, .int .u32 0] := by simpa using O'.store 6 (.int .i64 1)
            clear oc of H' O'
            go_roundw
            case rel => exact ⟨1, .inr (by omega), by go_num, H.drew, O⟩
            case measure => simp [intOf]; try omega
          · have e := E11.out rfl (by omega)
            have pc := H.one.read
            have qc := H.two.read
            have oc : ∀ j, wr.cell? ⟨n, j, none⟩ = (#[.int .i64 f, .int .i64 K, .int .u32 e0, .int .u32 e1, .int .u32 e2, .int .u32 e3, .int .i64 1, .int .u32 c0, .int .u32 0, .int .u32 0] : Array Value)[j]? := O.read
            have of := O.soft
            go_wp2_with fail
            go_region
            have H' := H.aside (i := 8) hn (.int .u32 c1)
            have O' : Whole (wr.setCell ⟨n, 8, none⟩ (.int .u32 c1)) n 26 #[.int .i64 f, .int .i64 K, .int .u32 e0, .int .u32 e1, .int .u32 e2, .int .u32 e3, .int .i64 1, .int .u32 c0, .int .u32 c1, .int .u32 0] := by
              have := O.store 8 (.int .u32 c1)
              simpa [S2] using this
            clear pc qc oc of H O
            generalize wr.setCell ⟨n, 8, none⟩ (.int .u32 c1) = W2 at H' O' ⊢
            have oc := O'.read
            have of := O'.soft
            go_wp2_with fail
            have H := H'.aside (i := 6) hn (.int .i64 2)
            have O : Whole (W2.setCell ⟨n, 6, none⟩ (.int .i64 2)) n 26 #[.int .i64 f, .int .i64 K, .int .u32 e0, .int .u32 e1, .int .u32 e2, .int .u32 e3, .int .i64 2, .int .u32 c0, .int .u32 c1, .int .u32 0] := by simpa using O'.store 6 (.int .i64 2)
            clear oc of H' O'
            go_roundw
            case rel => exact ⟨2, .inr (by omega), by go_num, H.drew, O⟩
            case measure => simp [intOf]; try omega
          · have e := E20.out rfl (by omega)
            have pc := H.one.read
            have qc := H.two.read
            have oc : ∀ j, wr.cell? ⟨n, j, none⟩ = (#[.int .i64 f, .int .i64 K, .int .u32 e0, .int .u32 e1, .int .u32 e2, .int .u32 e3, .int .i64 0, .int .u32 0, .int .u32 0, .int .u32 0] : Array Value)[j]? := O.read
            have of := O.soft
            go_wp2_with fail
            go_region
            have H' := H.aside (i := 7) hn (.int .u32 c0)
            have O' : Whole (wr.setCell ⟨n, 7, none⟩ (.int .u32 c0)) n 26 #[.int .i64 f, .int .i64 K, .int .u32 e0, .int .u32 e1, .int .u32 e2, .int .u32 e3, .int .i64 0, .int .u32 c0, .int .u32 0, .int .u32 0] := by
              have := O.store 7 (.int .u32 c0)
              simpa [S2] using this
            clear pc qc oc of H O
            generalize wr.setCell ⟨n, 7, none⟩ (.int .u32 c0) = W2 at H' O' ⊢
            have oc := O'.read
            have of := O'.soft
            go_wp2_with fail
            have H := H'.aside (i := 6) hn (.int .i64 1)
            have O : Whole (W2.setCell ⟨n, 6, none⟩ (.int .i64 1)) n 26 #[.int .i64 f, .int .i64 K, .int .u32 e0, .int .u32 e1, .int .u32 e2, .int .u32 e3, .int .i64 1, .int .u32 c0, .int .u32 0, .int .u32 0] := by simpa using O'.store 6 (.int .i64 1)
            clear oc of H' O'
            go_roundw
            case rel => exact ⟨1, .inr (by omega), by go_num, H.drew, O⟩
            case measure => simp [intOf]; try omega
        · have hmm : (m : Int) = (if k ≤ qk then qk - k else 0) := by split <;> omega
          have HM := Lib.hid hmm
          have m2 : (m : Int) + qu ≤ 3 := by rw [hmm]; split <;> omega
          clear hmm
          have qc := H.two.read
          go_wp2_with fail
          clear qc
          generalize k + (m : Int) = x9
          go_loopw [10] (fun s wx => ∃ j : Nat, (j : Int) ≤ qu ∧ s = .int .i64 j ∧ PQR w wx g 26 (Pa.mk f k p0 p1 p2 p3 u l0 l1 l2) (Pa.mk qf qk q0 q1 q2 q3 qu r0 r1 r2) ∧ Whole wx n 26 (S2 f K e0 e1 e2 e3 c0 c1 c2 (m + j))) (fun s _ => qu.toNat - (intOf s).toNat)
          case atStart => exact ⟨0, by omega, rfl, H, O⟩
          case round =>
            clear H O
            obtain ⟨j, hj, rfl, H, O⟩ := hrel
            by_cases hlt3 : (j : Int) < qu
            · obtain ⟨rfl, rfl⟩ | ⟨rfl, rfl⟩ | ⟨rfl, rfl⟩ | ⟨rfl, rfl⟩ | ⟨rfl, rfl⟩ | ⟨rfl, rfl⟩ : (m = 0 ∧ j = 0) ∨ (m = 0 ∧ j = 1) ∨ (m = 0 ∧ j = 2) ∨ (m = 1 ∧ j = 0) ∨ (m = 1 ∧ j = 1) ∨ (m = 2 ∧ j = 0) := by omega
              · have e := Lib.hid (F00.out (by have := HM.out; split at this <;> omega) (by omega))
                have pc := H.one.read
                have qc := H.two.read
                have oc : ∀ j, wr.cell? ⟨n, j, none⟩ = (#[.int .i64 f, .int .i64 K, .int .u32 e0, .int .u32 e1, .int .u32 e2, .int .u32 e3, .int .i64 0, .int .u32 0, .int .u32 0, .int .u32 0] : Array Value)[j]? := O.read
                have of := O.soft
                go_wp2_with fail
                go_region
                have H' := H.aside (i := 7) hn (.int .u32 r0)
                have O' : Whole (wr.setCell ⟨n, 7, none⟩ (.int .u32 r0)) n 26 #[.int .i64 f, .int .i64 K, .int .u32 e0, .int .u32 e1, .int .u32 e2, .int .u32 e3, .int .i64 0, .int .u32 c0, .int .u32 0, .int .u32 0] := by
                  have := O.store 7 (.int .u32 r0)
                  rw [e.out] at this ⊢
                  simpa [S2] using this
                clear pc qc oc of H O
                generalize wr.setCell ⟨n, 7, none⟩ (.int .u32 r0) = W2 at H' O' ⊢
                have oc := O'.read
                have of := O'.soft
                go_wp2_with fail
                have H := H'.aside (i := 6) hn (.int .i64 1)
                have O : Whole (W2.setCell ⟨n, 6, none⟩ (.int .i64 1)) n 26 #[.int .i64 f, .int .i64 K, .int .u32 e0, .int .u32 e1, .int .u32 e2, .int .u32 e3, .int .i64 1, .int .u32 c0, .int .u32 0, .int .u32 0] := by simpa using O'.store 6 (.int .i64 1)
                clear oc of H' O'
                go_roundw
                case rel => exact ⟨1, by omega, by go_num, H.drew, O⟩
                case measure => simp [intOf]; omega
              · have e := Lib.hid (F01.out (by have := HM.out; split at this <;> omega) (by omega))
                have pc := H.one.read
                have qc := H.two.read
                have oc : ∀ j, wr.cell? ⟨n, j, none⟩ = (#[.int .i64 f, .int .i64 K, .int .u32 e0, .int .u32 e1, .int .u32 e2, .int .u32 e3, .int .i64 1, .int .u32 c0, .int .u32 0, .int .u32 0] : Array Value)[j]? := O.read
                have of := O.soft
                go_wp2_with fail
                go_region
                have H' := H.aside (i := 8) hn (.int .u32 r1)
                have O' : Whole (wr.setCell ⟨n, 8, none⟩ (.int .u32 r1)) n 26 #[.int .i64 f, .int .i64 K, .int .u32 e0, .int .u32 e1, .int .u32 e2, .int .u32 e3, .int .i64 1, .int .u32 c0, .int .u32 c1, .int .u32 0] := by
                  have := O.store 8 (.int .u32 r1)
                  rw [e.out] at this ⊢
                  simpa [S2] using this
                clear pc qc oc of H O
                generalize wr.setCell ⟨n, 8, none⟩ (.int .u32 r1) = W2 at H' O' ⊢
                have oc := O'.read
                have of := O'.soft
                go_wp2_with fail
                have H := H'.aside (i := 6) hn (.int .i64 2)
                have O : Whole (W2.setCell ⟨n, 6, none⟩ (.int .i64 2)) n 26 #[.int .i64 f, .int .i64 K, .int .u32 e0, .int .u32 e1, .int .u32 e2, .int .u32 e3, .int .i64 2, .int .u32 c0, .int .u32 c1, .int .u32 0] := by simpa using O'.store 6 (.int .i64 2)
                clear oc of H' O'
                go_roundw
                case rel => exact ⟨2, by omega, by go_num, H.drew, O⟩
                case measure => simp [intOf]; omega
              · have e := Lib.hid (F02.out (by have := HM.out; split at this <;> omega) (by omega))
                have pc := H.one.read
                have qc := H.two.read
                have oc : ∀ j, wr.cell? ⟨n, j, none⟩ = (#[.int .i64 f, .int .i64 K, .int .u32 e0, .int .u32 e1, .int .u32 e2, .int .u32 e3, .int .i64 2, .int .u32 c0, .int .u32 c1, .int .u32 0] : Array Value)[j]? := O.read
                have of := O.soft
                go_wp2_with fail
                go_region
                have H' := H.aside (i := 9) hn (.int .u32 r2)
                have O' : Whole (wr.setCell ⟨n, 9, none⟩ (.int .u32 r2)) n 26 #[.int .i64 f, .int .i64 K, .int .u32 e0, .int .u32 e1, .int .u32 e2, .int .u32 e3, .int .i64 2, .int .u32 c0, .int .u32 c1, .int .u32 c2] := by
                  have := O.store 9 (.int .u32 r2)
                  rw [e.out] at this ⊢
                  simpa [S2] using this
                clear pc qc oc of H O
                generalize wr.setCell ⟨n, 9, none⟩ (.int .u32 r2) = W2 at H' O' ⊢
                have oc := O'.read
                have of := O'.soft
                go_wp2_with fail
                have H := H'.aside (i := 6) hn (.int .i64 3)
                have O : Whole (W2.setCell ⟨n, 6, none⟩ (.int .i64 3)) n 26 #[.int .i64 f, .int .i64 K, .int .u32 e0, .int .u32 e1, .int .u32 e2, .int .u32 e3, .int .i64 3, .int .u32 c0, .int .u32 c1, .int .u32 c2] := by simpa using O'.store 6 (.int .i64 3)
                clear oc of H' O'
                go_roundw
                case rel => exact ⟨3, by omega, by go_num, H.drew, O⟩
                case measure => simp [intOf]; omega
              · have e := Lib.hid (F10.out (by have := HM.out; split at this <;> omega) (by omega))
                have pc := H.one.read
                have qc := H.two.read
                have oc : ∀ j, wr.cell? ⟨n, j, none⟩ = (#[.int .i64 f, .int .i64 K, .int .u32 e0, .int .u32 e1, .int .u32 e2, .int .u32 e3, .int .i64 1, .int .u32 c0, .int .u32 0, .int .u32 0] : Array Value)[j]? := O.read
                have of := O.soft
                go_wp2_with fail
                go_region
                have H' := H.aside (i := 8) hn (.int .u32 r0)
                have O' : Whole (wr.setCell ⟨n, 8, none⟩ (.int .u32 r0)) n 26 #[.int .i64 f, .int .i64 K, .int .u32 e0, .int .u32 e1, .int .u32 e2, .int .u32 e3, .int .i64 1, .int .u32 c0, .int .u32 c1, .int .u32 0] := by
                  have := O.store 8 (.int .u32 r0)
                  rw [e.out] at this ⊢
                  simpa [S2] using this
                clear pc qc oc of H O
                generalize wr.setCell ⟨n, 8, none⟩ (.int .u32 r0) = W2 at H' O' ⊢
                have oc := O'.read
                have of := O'.soft
                go_wp2_with fail
                have H := H'.aside (i := 6) hn (.int .i64 2)
                have O : Whole (W2.setCell ⟨n, 6, none⟩ (.int .i64 2)) n 26 #[.int .i64 f, .int .i64 K, .int .u32 e0, .int .u32 e1, .int .u32 e2, .int .u32 e3, .int .i64 2, .int .u32 c0, .int .u32 c1, .int .u32 0] := by simpa using O'.store 6 (.int .i64 2)
                clear oc of H' O'
                go_roundw
                case rel => exact ⟨1, by omega, by go_num, H.drew, O⟩
                case measure => simp [intOf]; omega
              · have e := Lib.hid (F11.out (by have := HM.out; split at this <;> omega) (by omega))
                have pc := H.one.read
                have qc := H.two.read
                have oc : ∀ j, wr.cell? ⟨n, j, none⟩ = (#[.int .i64 f, .int .i64 K, .int .u32 e0, .int .u32 e1, .int .u32 e2, .int .u32 e3, .int .i64 2, .int .u32 c0, .int .u32 c1, .int .u32 0] : Array Value)[j]? := O.read
                have of := O.soft
                go_wp2_with fail
                go_region
                have H' := H.aside (i := 9) hn (.int .u32 r1)
                have O' : Whole (wr.setCell ⟨n, 9, none⟩ (.int .u32 r1)) n 26 #[.int .i64 f, .int .i64 K, .int .u32 e0, .int .u32 e1, .int .u32 e2, .int .u32 e3, .int .i64 2, .int .u32 c0, .int .u32 c1, .int .u32 c2] := by
                  have := O.store 9 (.int .u32 r1)
                  rw [e.out] at this ⊢
                  simpa [S2] using this
                clear pc qc oc of H O
                generalize wr.setCell ⟨n, 9, none⟩ (.int .u32 r1) = W2 at H' O' ⊢
                have oc := O'.read
                have of := O'.soft
                go_wp2_with fail
                have H := H'.aside (i := 6) hn (.int .i64 3)
                have O : Whole (W2.setCell ⟨n, 6, none⟩ (.int .i64 3)) n 26 #[.int .i64 f, .int .i64 K, .int .u32 e0, .int .u32 e1, .int .u32 e2, .int .u32 e3, .int .i64 3, .int .u32 c0, .int .u32 c1, .int .u32 c2] := by simpa using O'.store 6 (.int .i64 3)
                clear oc of H' O'
                go_roundw
                case rel => exact ⟨2, by omega, by go_num, H.drew, O⟩
                case measure => simp [intOf]; omega
              · have e := Lib.hid (F20.out (by have := HM.out; split at this <;> omega) (by omega))
                have pc := H.one.read
                have qc := H.two.read
                have oc : ∀ j, wr.cell? ⟨n, j, none⟩ = (#[.int .i64 f, .int .i64 K, .int .u32 e0, .int .u32 e1, .int .u32 e2, .int .u32 e3, .int .i64 2, .int .u32 c0, .int .u32 c1, .int .u32 0] : Array Value)[j]? := O.read
                have of := O.soft
                go_wp2_with fail
                go_region
                have H' := H.aside (i := 9) hn (.int .u32 r0)
                have O' : Whole (wr.setCell ⟨n, 9, none⟩ (.int .u32 r0)) n 26 #[.int .i64 f, .int .i64 K, .int .u32 e0, .int .u32 e1, .int .u32 e2, .int .u32 e3, .int .i64 2, .int .u32 c0, .int .u32 c1, .int .u32 c2] := by
                  have := O.store 9 (.int .u32 r0)
                  rw [e.out] at this ⊢
                  simpa [S2] using this
                clear pc qc oc of H O
                generalize wr.setCell ⟨n, 9, none⟩ (.int .u32 r0) = W2 at H' O' ⊢
                have oc := O'.read
                have of := O'.soft
                go_wp2_with fail
                have H := H'.aside (i := 6) hn (.int .i64 3)
                have O : Whole (W2.setCell ⟨n, 6, none⟩ (.int .i64 3)) n 26 #[.int .i64 f, .int .i64 K, .int .u32 e0, .int .u32 e1, .int .u32 e2, .int .u32 e3, .int .i64 3, .int .u32 c0, .int .u32 c1, .int .u32 c2] := by simpa using O'.store 6 (.int .i64 3)
                clear oc of H' O'
                go_roundw
                case rel => exact ⟨1, by omega, by go_num, H.drew, O⟩
                case measure => simp [intOf]; omega
            · have hN : ((m + j : Nat) : Int) = (if k ≤ qk then qk - k else 0) + qu := by have := HM.out; push_cast; omega
              have hV := HV.out _ hN
              have q1' : (if 1 ≤ K then p1 + q1 else 0) = e1 := by rw [← HE.out.1]; have := HI.out; split <;> split <;> omega
              have q2' : (if 2 ≤ K then p2 + q2 else 0) = e2 := by rw [← HE.out.2.1]; have := HI.out; split <;> split <;> omega
              have q3' : (if 3 ≤ K then p3 + q3 else 0) = e3 := by rw [← HE.out.2.2]; have := HI.out; split <;> split <;> omega
              rw [q1', q2', q3', HE0.out] at hV
              rw [hV] at O
              clear hV q1' q2' q3' hN
              have qc := H.two.read
              have oc := O.read
              rcases hc.out with ⟨rfl, rfl, rfl⟩ | ⟨hc1, rfl, rfl⟩
              · go_wp2_with fail
                refine (X.out _).mono ?_
                rintro e w5 ⟨rfl, b5⟩
                have h5 := H.below b5
                have O5 := O.below b5 O.inside
                clear b5 H qc oc O
                obtain ⟨oc, of⟩ := all_of O5
                go_wp2_with ((refine put rfl 26 (.tmp 4) _ rfl (g := g + 1 + 1) rfl rfl h5.res (by kernel_rfl) rfl (by simp [Value.oneCell']) h5.old (by rw [h5.base]; omega) ?_; intro w9 hR9 hB9 hs9 ho9))
                exact bodyPost_ret (two_pathR Try.results12 rfl rfl (P := VV) hR9) rfl (gives hB9 rfl rfl)
              · have hk1 : (c != 0) = true := by simpa using hc1
                clear hc1
                go_wp2_with fail
                refine (X.out _).mono ?_
                rintro e w5 ⟨rfl, b5⟩
                have h5 := H.below b5
                clear b5 H qc oc O
                go_wp2_with ((refine put rfl 26 (.tmp 4) _ rfl (g := g + 1 + 1) rfl rfl h5.res (by kernel_rfl) rfl (by simp [Value.oneCell']) h5.old (by rw [h5.base]; omega) ?_; intro w9 hR9 hB9 hs9 ho9))
                exact bodyPost_ret (two_pathR Try.results12 rfl rfl (P := P0) hR9) rfl (gives hB9 rfl rfl)
end Go.Proofs.Ytilkdpobkcocoaa.path
