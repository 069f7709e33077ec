/-
  The contract of data.parseRecord.
-/
import Derived.Test.YtfjfohkdlikpiaaDoorWq
import Derived.Test.YtfjfohkdlikpiaaDoorDp
import Derived.Test.YtfjfohkdlikpiaaDoorDe
import Derived.Test.YtfjfohkdlikpiaaDoorWh
namespace Go.Proofs.YtfjfohkdlikpiaaDoor.data
open Go.ChangeShapes Go.WideShapes Go.ChangeAt Go.RowKit
open Go.Proofs.YtfjfohkdlikpiaaDoor.opened Go.Proofs.YtfjfohkdlikpiaaDoor.block Go.Proofs.YtfjfohkdlikpiaaDoor.words

def rcV (s : Bs) : Rc := (recP s).getD ⟨0, 0⟩
def rcE (s : Bs) : Int := if (recP s).isSome then 0 else 6
theorem cut_short (s : Bs) (x : UInt8) : (Lib.cut s [x]).1.length ≤ s.length ∧ (Lib.cut s [x]).2.1.length ≤ s.length := by
  rcases cut_one s x with ⟨a, b, e, -, h⟩ | ⟨-, h⟩
  · rw [h, e]
    simp
    omega
  · rw [h]
    simp
set_option maxRecDepth 100000 in
set_option maxHeartbeats 2000000 in
theorem prec_any (s : Bs) (hs : s.length ≤ 100000) (w : World) (hE : Env w) :
    Calls Tryd.prog 11 #[.string ⟨s.toArray⟩] w fun e w' => e = .returned (.tuple #[.agg #[.int .i64 (rcV s).k, .int .i64 (rcV s).v], .int .i64 (rcE s)]) ∧ Below w.heap.size w w' := by
  have b1 := fresh0 w (.cells #[.int .i64 0, .int .i64 0] 34)
  obtain ⟨c1, c2⟩ := cut_short s 58
  have HE := Lib.hid (hE.below b1)
  have HB := Lib.hid b1
  have W1 := Lib.hid (Whole.fresh w 34 #[.int .i64 0, .int .i64 0])
  have CT := Lib.hid (fun W (h : Env W) => cut_any s 58 hs W h.max)
  have SA := Lib.hid (fun W (h : Env W) => signed_any (Lib.cut s [58]).1 (by omega) W h)
  have SB := Lib.hid (fun W (h : Env W) => signed_any (Lib.cut s [58]).2.1 (by omega) W h)
  have HV : Hid (rcV s = (recP s).getD ⟨0, 0⟩ ∧ rcE s = if (recP s).isSome then 0 else 6) := Lib.hid ⟨rfl, rfl⟩
  have HP : Hid (recP s = _) := Lib.hid (recP.eq_1 s)
  clear hE b1 c1 c2
  generalize rcV s = rv at HV ⊢
  generalize rcE s = re at HV ⊢
  generalize recP s = rp at HV HP
  generalize (Lib.cut s [58]).1 = xa at CT SA HP
  generalize (Lib.cut s [58]).2.1 = xb at CT SB HP
  generalize (Lib.cut s [58]).2.2 = ok at CT HP
  have GA : Hid (sgV xa = (sgP xa).getD 0 ∧ sgE xa = if (sgP xa).isSome then 0 else 6) := Lib.hid ⟨rfl, rfl⟩
  have GB : Hid (sgV xb = (sgP xb).getD 0 ∧ sgE xb = if (sgP xb).isSome then 0 else 6) := Lib.hid ⟨rfl, rfl⟩
  generalize sgV xa = va at GA SA
  generalize sgE xa = ea at GA SA
  generalize sgV xb = vb at GB SB
  generalize sgE xb = eb at GB SB
  generalize sgP xa = pa at GA HP
  generalize sgP xb = pb at GB HP
  cases ok with
  | false =>
    obtain ⟨e1, e2⟩ := HV.out
    rw [HP.out] at e1 e2
    simp at e1 e2
    subst e1 e2
    clear HV HP
    clear GA GB SA SB
    go_enter Tryd.func11, Tryd.ntmps11
    go_wp2_with (first | (go_at_call 17; refine (CT.out _ HE.out).mono ?_; rintro e w2 ⟨rfl, b2⟩; have W2 := (W1.out).below b2 (W1.out).inside; have B2 := Lib.hid ((HB.out).trans (b2.mono (HB.out).size)); obtain ⟨k0, k1, f0, f1⟩ : _ ∧ _ ∧ _ ∧ _ := ⟨W2.read 0, W2.read 1, W2.soft 0, W2.soft 1⟩; clear b2))
    have W9 := W2
    have B9 := B2
    clear k0 k1 f0 f1
    generalize w2 = w9 at W9 B9 ⊢
    have hset : w9.grownBy ((w9.setCell ⟨w.heap.size, 0, none⟩ (.int .i64 0)).setCell ⟨w.heap.size, 1, none⟩ (.int .i64 0)) (some w.heap.size) := only_store (only_store (World.grownBy.refl w9 _) _) _
    have W3 : Whole ((w9.setCell ⟨w.heap.size, 0, none⟩ (.int .i64 0)).setCell ⟨w.heap.size, 1, none⟩ (.int .i64 0)) w.heap.size 34 #[.int .i64 0, .int .i64 0] := (W9.store 0 _).store 1 _
    have B3 := below_only B9.out hset B9.out.size (Nat.le_refl _)
    generalize (w9.setCell ⟨w.heap.size, 0, none⟩ (.int .i64 0)).setCell ⟨w.heap.size, 1, none⟩ (.int .i64 0) = wz at W3 B3 ⊢
    have q0 := W3.read 0
    have q1 := W3.read 1
    exact bodyPost_ret (v := .tuple #[.agg #[.int .i64 0, .int .i64 0], .int .i64 6]) (by simp [results, Tryd.results11, go_sem, q0, q1]) rfl ⟨rfl, B3⟩
  | true =>
    cases pa with
    | none =>
      obtain ⟨g1, g2⟩ := GA.out
      simp at g1 g2
      subst g1 g2
      obtain ⟨e1, e2⟩ := HV.out
      rw [HP.out] at e1 e2
      simp at e1 e2
      subst e1 e2
      clear HV HP
      clear GA GB SB
      go_enter Tryd.func11, Tryd.ntmps11
      go_wp2_with (first | (go_at_call 17; refine (CT.out _ HE.out).mono ?_; rintro e w2 ⟨rfl, b2⟩; have W2 := (W1.out).below b2 (W1.out).inside; have B2 := Lib.hid ((HB.out).trans (b2.mono (HB.out).size)); have HE2 := Lib.hid ((HE.out).below b2); clear b2) | (go_at_call 18; refine (SA.out _ HE2.out).mono ?_; rintro e w3 ⟨rfl, b3⟩; have W3 := (W2).below b3 (W2).inside; have B3 := Lib.hid ((B2.out).trans (b3.mono (B2.out).size)); obtain ⟨k0, k1, f0, f1⟩ : _ ∧ _ ∧ _ ∧ _ := ⟨W3.read 0, W3.read 1, W3.soft 0, W3.soft 1⟩; clear b3))
      have W9 := W3
      have B9 := B3
      clear k0 k1 f0 f1
      generalize w3 = w9 at W9 B9 ⊢
      have hset : w9.grownBy ((w9.setCell ⟨w.heap.size, 0, none⟩ (.int .i64 0)).setCell ⟨w.heap.size, 1, none⟩ (.int .i64 0)) (some w.heap.size) := only_store (only_store (World.grownBy.refl w9 _) _) _
      have W3 : Whole ((w9.setCell ⟨w.heap.size, 0, none⟩ (.int .i64 0)).setCell ⟨w.heap.size, 1, none⟩ (.int .i64 0)) w.heap.size 34 #[.int .i64 0, .int .i64 0] := (W9.store 0 _).store 1 _
      have B3 := below_only B9.out hset B9.out.size (Nat.le_refl _)
      generalize (w9.setCell ⟨w.heap.size, 0, none⟩ (.int .i64 0)).setCell ⟨w.heap.size, 1, none⟩ (.int .i64 0) = wz at W3 B3 ⊢
      have q0 := W3.read 0
      have q1 := W3.read 1
      exact bodyPost_ret (v := .tuple #[.agg #[.int .i64 0, .int .i64 0], .int .i64 6]) (by simp [results, Tryd.results11, go_sem, q0, q1]) rfl ⟨rfl, B3⟩
    | some ka =>
      obtain ⟨g1, g2⟩ := GA.out
      simp at g1 g2
      subst g1 g2
      cases pb with
      | none =>
        obtain ⟨g1, g2⟩ := GB.out
        simp at g1 g2
        subst g1 g2
        obtain ⟨e1, e2⟩ := HV.out
        rw [HP.out] at e1 e2
        simp at e1 e2
        subst e1 e2
        clear HV HP
        clear GA GB
        go_enter Tryd.func11, Tryd.ntmps11
        go_wp2_with (first | (go_at_call 17; refine (CT.out _ HE.out).mono ?_; rintro e w2 ⟨rfl, b2⟩; have W2 := (W1.out).below b2 (W1.out).inside; have B2 := Lib.hid ((HB.out).trans (b2.mono (HB.out).size)); have HE2 := Lib.hid ((HE.out).below b2); clear b2) | (go_at_call 18; refine (SB.out _ HE3.out).mono ?_; rintro e w4 ⟨rfl, b4⟩; have W4 := (W3).below b4 (W3).inside; have B4 := Lib.hid ((B3.out).trans (b4.mono (B3.out).size)); obtain ⟨k0, k1, f0, f1⟩ : _ ∧ _ ∧ _ ∧ _ := ⟨W4.read 0, W4.read 1, W4.soft 0, W4.soft 1⟩; clear b4) | (go_at_call 18; refine (SA.out _ HE2.out).mono ?_; rintro e w3 ⟨rfl, b3⟩; have W3 := (W2).below b3 (W2).inside; have B3 := Lib.hid ((B2.out).trans (b3.mono (B2.out).size)); have HE3 := Lib.hid ((HE2.out).below b3); clear b3))
        have W9 := W4
        have B9 := B4
        clear k0 k1 f0 f1
        generalize w4 = w9 at W9 B9 ⊢
        have hset : w9.grownBy ((w9.setCell ⟨w.heap.size, 0, none⟩ (.int .i64 0)).setCell ⟨w.heap.size, 1, none⟩ (.int .i64 0)) (some w.heap.size) := only_store (only_store (World.grownBy.refl w9 _) _) _
        have W3 : Whole ((w9.setCell ⟨w.heap.size, 0, none⟩ (.int .i64 0)).setCell ⟨w.heap.size, 1, none⟩ (.int .i64 0)) w.heap.size 34 #[.int .i64 0, .int .i64 0] := (W9.store 0 _).store 1 _
        have B3 := below_only B9.out hset B9.out.size (Nat.le_refl _)
        generalize (w9.setCell ⟨w.heap.size, 0, none⟩ (.int .i64 0)).setCell ⟨w.heap.size, 1, none⟩ (.int .i64 0) = wz at W3 B3 ⊢
        have q0 := W3.read 0
        have q1 := W3.read 1
        exact bodyPost_ret (v := .tuple #[.agg #[.int .i64 0, .int .i64 0], .int .i64 6]) (by simp [results, Tryd.results11, go_sem, q0, q1]) rfl ⟨rfl, B3⟩
      | some kb =>
        obtain ⟨g1, g2⟩ := GB.out
        simp at g1 g2
        subst g1 g2
        obtain ⟨e1, e2⟩ := HV.out
        rw [HP.out] at e1 e2
        simp at e1 e2
        subst e1 e2
        clear HV HP
        clear GA GB
        go_enter Tryd.func11, Tryd.ntmps11
        go_wp2_with (first | (go_at_call 17; refine (CT.out _ HE.out).mono ?_; rintro e w2 ⟨rfl, b2⟩; have W2 := (W1.out).below b2 (W1.out).inside; have B2 := Lib.hid ((HB.out).trans (b2.mono (HB.out).size)); have HE2 := Lib.hid ((HE.out).below b2); clear b2) | (go_at_call 18; refine (SB.out _ HE3.out).mono ?_; rintro e w4 ⟨rfl, b4⟩; have W4 := (W3).below b4 (W3).inside; have B4 := Lib.hid ((B3.out).trans (b4.mono (B3.out).size)); obtain ⟨k0, k1, f0, f1⟩ : _ ∧ _ ∧ _ ∧ _ := ⟨W4.read 0, W4.read 1, W4.soft 0, W4.soft 1⟩; clear b4) | (go_at_call 18; refine (SA.out _ HE2.out).mono ?_; rintro e w3 ⟨rfl, b3⟩; have W3 := (W2).below b3 (W2).inside; have B3 := Lib.hid ((B2.out).trans (b3.mono (B2.out).size)); have HE3 := Lib.hid ((HE2.out).below b3); clear b3))
        have W9 := W4
        have B9 := B4
        clear k0 k1 f0 f1
        generalize w4 = w9 at W9 B9 ⊢
        have hset : w9.grownBy ((w9.setCell ⟨w.heap.size, 0, none⟩ (.int .i64 va)).setCell ⟨w.heap.size, 1, none⟩ (.int .i64 vb)) (some w.heap.size) := only_store (only_store (World.grownBy.refl w9 _) _) _
        have W3 : Whole ((w9.setCell ⟨w.heap.size, 0, none⟩ (.int .i64 va)).setCell ⟨w.heap.size, 1, none⟩ (.int .i64 vb)) w.heap.size 34 #[.int .i64 va, .int .i64 vb] := (W9.store 0 _).store 1 _
        have B3 := below_only B9.out hset B9.out.size (Nat.le_refl _)
        generalize (w9.setCell ⟨w.heap.size, 0, none⟩ (.int .i64 va)).setCell ⟨w.heap.size, 1, none⟩ (.int .i64 vb) = wz at W3 B3 ⊢
        have q0 := W3.read 0
        have q1 := W3.read 1
        exact bodyPost_ret (v := .tuple #[.agg #[.int .i64 va, .int .i64 vb], .int .i64 0]) (by simp [results, Tryd.results11, go_sem, q0, q1]) rfl ⟨rfl, B3⟩
end Go.Proofs.YtfjfohkdlikpiaaDoor.data
