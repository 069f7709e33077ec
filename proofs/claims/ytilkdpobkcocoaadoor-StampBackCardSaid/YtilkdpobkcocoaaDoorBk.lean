/-
  What a loop gave is taken back; a round more, and an epoch more, are behind; text and bytes are read again as the time: where the listed variables of the library start as they are laid.
-/
import Derived.Test.YtilkdpobkcocoaaDoorLift
import Derived.Test.YtilkdpobkcocoaaDoorWorks
import Derived.Test.YtilkdpobkcocoaaDoorBkM
import Derived.Test.YtilkdpobkcocoaaDoorKd
import Derived.Test.YtilkdpobkcocoaaDoorLe
import Derived.Test.YtilkdpobkcocoaaDoorEq
import Derived.Test.YtilkdpobkcocoaaDoorOpenT
import Derived.Test.YtilkdpobkcocoaaDoorTie
import Derived.Test.YtilkdpobkcocoaaDoorCards
import Derived.Deep.RegionHeld3
import Derived.Deep.RegionHeld
import Derived.Deep.Cut
import Derived.Deep.CutRange
namespace Go.Proofs.YtilkdpobkcocoaaDoor.stampBack
open Go.ChangeShapes Go.WideShapes Go.ChangeAt Go.RowKit
open Go.Proofs.YtilkdpobkcocoaaDoor.tm Go.Proofs.YtilkdpobkcocoaaDoor.opened Go.Proofs.YtilkdpobkcocoaaDoor.block Go.Proofs.YtilkdpobkcocoaaDoor.stamp Go.Proofs.YtilkdpobkcocoaaDoor.code

/-- The time is known in its block; nothing older has turned. -/
structure One (w wr : World) (g : Nat) (t : Tm) : Prop where
  one : Whole wr g 25 #[.int .u32 t.e, .int .i64 t.d, .int .u32 t.a, .int .u32 t.b, .int .u32 t.c]
  old : Below w.heap.size w wr
  base : w.heap.size = g
theorem One.below {w wr w1 : World} {g : Nat} {t : Tm} (h : One w wr g t) (k : Below wr.heap.size wr w1) : One w w1 g t := ⟨h.one.below k h.one.inside, h.old.trans (k.mono h.old.size), h.base⟩
theorem One.alloc {w wr : World} {g : Nat} {t : Tm} (h : One w wr g t) (o : Obj) : One w (wr.alloc o) g t := ⟨h.one.alloc o, h.old.alloc h.old.size _, h.base⟩
theorem One.fresh (w : World) (t : Tm) : One w (w.alloc (.cells #[.int .u32 t.e, .int .i64 t.d, .int .u32 t.a, .int .u32 t.b, .int .u32 t.c] 25)) w.heap.size t := ⟨Whole.fresh w _ _, fresh1 _ _, rfl⟩
theorem run_ne_agg {P : Program} {t : TypeId} {x y : Array Value} {b : Bool} {w : World} (h : (binOp .eql t (.agg x) (.agg y)).run P w = .ok (.bool b) w) : (binOp .neq t (.agg x) (.agg y)).run P w = .ok (.bool (!b)) w := by
  simp only [binOp, Sem.run_bind, Sem.run_pure] at h ⊢
  cases hr : (Op.equal t (.agg x) (.agg y)).run P w with
  | ok v w2 =>
    rw [hr] at h
    simp only [Result.andThen_ok] at h ⊢
    injection h with h1 h2
    injection h1 with h1
    rw [h1, h2]
  | _ => rw [hr] at h; simp [Result.andThen] at h
theorem up_only {B g : Nat} {a w w' : World} (h : Below B a w) (k : w.grownBy w' (some g)) (hB : B ≤ w.heap.size) (hg : B ≤ g) : Below B a w' := below_only h k hB hg
set_option maxRecDepth 100000 in
set_option maxHeartbeats 80000000 in
theorem walk0 (t : Tm) (n : Int) (i : t.In) (w : World) (hE : Env w) (z : chk t ≠ 0) : Calls Tryd.prog 4 #[.agg #[.int .u32 t.e, .int .i64 t.d, .int .u32 t.a, .int .u32 t.b, .int .u32 t.c], .int .u32 n] w fun e w' => e = .returned (.bool true) ∧ Below w.heap.size w w' := by
  have K := Lib.hid (checkR_any t i)
  have EV := Lib.hid hE
  have e1 : (chk t != 0) = true := by simpa using z
  generalize chk t = c at K e1
  clear hE i z
  go_enter Tryd.func4, Tryd.ntmps4
  have h0 := One.fresh w t
  go_wp2_with fail
  refine (works_any _ (EV.out.below h0.old)).mono ?_
  rintro e w1 ⟨rfl, b1⟩
  have h1 := h0.below b1
  clear b1 h0
  generalize w.heap.size = g at h1 ⊢
  obtain ⟨tc, tf⟩ := all_of h1.one
  go_wp2_with fail
  refine (K.out _).mono ?_
  rintro e w2 ⟨rfl, b2⟩
  have h2 := h1.below b2
  clear tc tf 
  clear b2 h1
  go_wp2_with fail
  go_ret
  exact ⟨rfl, h2.old⟩
set_option maxRecDepth 100000 in
set_option maxHeartbeats 80000000 in
theorem walkB (t : Tm) (n : Int) (i : t.In) (n0 : 0 ≤ n) (n1 : n ≤ 4294967295) (w : World) (hE : Env w) (z : chk t = 0) : Calls Tryd.prog 4 #[.agg #[.int .u32 t.e, .int .i64 t.d, .int .u32 t.a, .int .u32 t.b, .int .u32 t.c], .int .u32 n] w fun e w' => e = .returned (.bool true) ∧ Below w.heap.size w w' := by
  have K := Lib.hid (checkR_any t i)
  rw [z] at K
  have EV := Lib.hid hE
  have EN := Lib.hid (enter_any t i)
  have LT := Lib.hid (later_any t n i n0 n1)
  have LL : Hid (laterE t n = 0 → Hid (∀ W : World, Calls Tryd.prog 18 #[.agg #[.int .u32 t.e, .int .i64 t.d, .int .u32 t.a, .int .u32 t.b, .int .u32 t.c], .agg #[.int .u32 (laterV t n).e, .int .i64 (laterV t n).d, .int .u32 (laterV t n).a, .int .u32 (laterV t n).b, .int .u32 (laterV t n).c]] W fun e w' => e = .returned (.bool true) ∧ Below W.heap.size W w') ∧ (0 < n → Hid (∀ W : World, Calls Tryd.prog 18 #[.agg #[.int .u32 (laterV t n).e, .int .i64 (laterV t n).d, .int .u32 (laterV t n).a, .int .u32 (laterV t n).b, .int .u32 (laterV t n).c], .agg #[.int .u32 t.e, .int .i64 t.d, .int .u32 t.a, .int .u32 t.b, .int .u32 t.c]] W fun e w' => e = .returned (.bool false) ∧ Below W.heap.size W w'))) := Lib.hid (fun e => by
    obtain ⟨k1, k2, k3⟩ := bk_later i n0 z e
    exact ⟨Lib.hid (k2 ▸ le_any t _ i k1), fun hn => Lib.hid (k3 hn ▸ le_any _ t k1 i)⟩)
  have T := Lib.hid (text_any t i)
  rw [show txtV t = txtL t by simp [txtV, z], z] at T
  have PA := Lib.hid (parse_any (txtL t) (Nat.le_trans (len_txt i (chk_zero z).1 (chk_zero z).2.1) (by omega)))
  rw [(parseV_txt i z).1, (parseV_txt i z).2] at PA
  have WR := Lib.hid (write_any t i)
  rw [show wrtV t = wrtL t by simp [wrtV, z], z] at WR
  have RD := read_wrt i z []
  have RT := readT_wrt i z []
  rw [List.append_nil] at RD RT
  have DD : (enterE t = 10 ∧ enterV t = T0) ∨ (enterE t = 0 ∧ Hid (∀ W : World, Calls Tryd.prog 16 #[.agg #[.int .u32 (enterV t).e, .int .i64 (enterV t).d, .int .u32 (enterV t).a, .int .u32 (enterV t).b, .int .u32 (enterV t).c]] W fun e w' => e = .returned (.tuple #[.agg #[.int .u32 t.e, .int .i64 t.d, .int .u32 t.a, .int .u32 t.b, .int .u32 t.c], .int .i64 0]) ∧ Below W.heap.size W w') ∧
      Hid (∀ W : World, Calls Tryd.prog 17 #[.agg #[.int .u32 (enterV t).e, .int .i64 (enterV t).d, .int .u32 (enterV t).a, .int .u32 (enterV t).b, .int .u32 (enterV t).c]] W fun e w' => e = .returned (.tuple #[.agg #[.int .u32 (nextV (enterV t)).e, .int .i64 (nextV (enterV t)).d, .int .u32 (nextV (enterV t)).a, .int .u32 (nextV (enterV t)).b, .int .u32 (nextV (enterV t)).c], .int .i64 0]) ∧ Below W.heap.size W w') ∧
      Hid (∀ W : World, Calls Tryd.prog 16 #[.agg #[.int .u32 (nextV (enterV t)).e, .int .i64 (nextV (enterV t)).d, .int .u32 (nextV (enterV t)).a, .int .u32 (nextV (enterV t)).b, .int .u32 (nextV (enterV t)).c]] W fun e w' => e = .returned (.tuple #[.agg #[.int .u32 t.e, .int .i64 t.d, .int .u32 t.a, .int .u32 t.b, .int .u32 t.c], .int .i64 0]) ∧ Below W.heap.size W w') ∧
      Hid (∀ W : World, Calls Tryd.prog 18 #[.agg #[.int .u32 (enterV t).e, .int .i64 (enterV t).d, .int .u32 (enterV t).a, .int .u32 (enterV t).b, .int .u32 (enterV t).c], .agg #[.int .u32 (nextV (enterV t)).e, .int .i64 (nextV (enterV t)).d, .int .u32 (nextV (enterV t)).a, .int .u32 (nextV (enterV t)).b, .int .u32 (nextV (enterV t)).c]] W fun e w' => e = .returned (.bool true) ∧ Below W.heap.size W w') ∧
      Hid (∀ W : World, Calls Tryd.prog 18 #[.agg #[.int .u32 (nextV (enterV t)).e, .int .i64 (nextV (enterV t)).d, .int .u32 (nextV (enterV t)).a, .int .u32 (nextV (enterV t)).b, .int .u32 (nextV (enterV t)).c], .agg #[.int .u32 (enterV t).e, .int .i64 (enterV t).d, .int .u32 (enterV t).a, .int .u32 (enterV t).b, .int .u32 (enterV t).c]] W fun e w' => e = .returned (.bool false) ∧ Below W.heap.size W w')) := by
    by_cases d : t.d = 3
    · exact .inl (bk_top z d)
    · obtain ⟨k0, k1, k2, k3, k4, k5, k6, k7, k8, k9⟩ := bk_in i z d
      have A := leave_any _ k1
      rw [k2, k3] at A
      have B := next_any _ k1
      rw [k4] at B
      have C := leave_any _ k5
      rw [k6, k7] at C
      exact .inr ⟨k0, Lib.hid A, Lib.hid B, Lib.hid C, Lib.hid (k8 ▸ le_any _ _ k1 k5), Lib.hid (k9 ▸ le_any _ _ k5 k1)⟩
  have HD := Lib.hid DD
  clear DD
  generalize nextV (enterV t) = y at HD
  generalize enterV t = v at EN HD
  generalize enterE t = ee at EN HD
  generalize laterV t n = u at LT LL
  generalize laterE t n = el at LT LL
  generalize txtL t = s at T PA
  have RX : Hid (∀ (r : Nat) (W : World), QA W r (wrtL t, 0) → Calls Tryd.prog 22 #[.pointer (some ⟨r, 0, none⟩)] W fun e w' => e = .returned (.agg #[.int .u32 t.e, .int .i64 t.d, .int .u32 t.a, .int .u32 t.b, .int .u32 t.c]) ∧ QA w' r ([], 0) ∧ W.grownBy w' (some r)) := Lib.hid (fun r W h => by
    have k := readA r (wrtL t, 0) (Nat.le_trans (len_wrt t) (by omega)) W h
    rw [RD, RT] at k
    exact k)
  have EX : Hid (∀ (r : Nat) (W : World), QA W r ([], 0) → Calls Tryd.prog 23 #[.pointer (some ⟨r, 0, none⟩)] W fun e w' => e = .returned (.int .i64 0) ∧ QA w' r ([], 0) ∧ W.grownBy w' (some r)) := Lib.hid (fun r W h => endA r [] 0 W h)
  clear RD RT
  generalize wrtL t = x at WR RX
  clear hE z i n1
  go_enter Tryd.func4, Tryd.ntmps4
  have h0 := One.fresh w t
  go_wp2_with fail
  refine (works_any _ (EV.out.below h0.old)).mono ?_
  rintro e w1 ⟨rfl, b1⟩
  have h1 := h0.below b1
  clear b1 h0
  generalize w.heap.size = g at h1 ⊢
  obtain ⟨tc, tf⟩ := all_of h1.one
  go_wp2_with fail
  refine (K.out _).mono ?_
  rintro e w3 ⟨rfl, b3⟩
  have h3 := h1.below b3
  clear tc tf 
  clear b3 h1
  obtain ⟨tc, tf⟩ := all_of h3.one
  go_wp2_with fail
  refine (EN.out _).mono ?_
  rintro e w4 ⟨rfl, b4⟩
  have h4 := h3.below b4
  clear tc tf 
  clear b4 h3
  go_upto_if 32 with fail
  have Ox := Whole.fresh w4 25 #[.int .u32 v.e, .int .i64 v.d, .int .u32 v.a, .int .u32 v.b, .int .u32 v.c]
  have h4 := h4.alloc (.cells #[.int .u32 v.e, .int .i64 v.d, .int .u32 v.a, .int .u32 v.b, .int .u32 v.c] 25)
  generalize w4.alloc (.cells #[.int .u32 v.e, .int .i64 v.d, .int .u32 v.a, .int .u32 v.b, .int .u32 v.c] 25) = We at Ox h4 ⊢
  generalize w4.heap.size = mx at Ox ⊢
  go_cut [6] from 5 to 78 (fun _ wx => One w wx g t)
  case first =>
    rcases HD.out with ⟨rfl, -⟩ | ⟨rfl, A, B, C, L1, L2⟩
    · go_wp2_with fail
      go_meet
      exact h4
    · obtain ⟨tc, tf⟩ := all_of h4.one
      obtain ⟨xc, xf⟩ := all_of Ox
      go_wp2_with fail
      refine (A.out _).mono ?_
      rintro e w5 ⟨rfl, b5⟩
      have h5 := h4.below b5
      have Ox := Ox.below b5 Ox.inside
      clear tc tf xc xf
      clear b5 h4
      go_upto_region 8 with fail
      have Oy := Whole.fresh w5 25 #[.int .u32 t.e, .int .i64 t.d, .int .u32 t.a, .int .u32 t.b, .int .u32 t.c]
      have Ox := Ox.alloc (.cells #[.int .u32 t.e, .int .i64 t.d, .int .u32 t.a, .int .u32 t.b, .int .u32 t.c] 25)
      have h5 := h5.alloc (.cells #[.int .u32 t.e, .int .i64 t.d, .int .u32 t.a, .int .u32 t.b, .int .u32 t.c] 25)
      change Code.wp _ _ _ _ (w5.alloc (.cells #[.int .u32 t.e, .int .i64 t.d, .int .u32 t.a, .int .u32 t.b, .int .u32 t.c] 25))
      generalize w5.alloc (.cells #[.int .u32 t.e, .int .i64 t.d, .int .u32 t.a, .int .u32 t.b, .int .u32 t.c] 25) = Wf at Ox Oy h5 ⊢
      generalize w5.heap.size = my at Oy ⊢
      obtain ⟨tc, tf⟩ := all_of h5.one
      obtain ⟨xc, xf⟩ := all_of Ox
      go_wp2_with fail
      refine (B.out _).mono ?_
      rintro e w6 ⟨rfl, b6⟩
      have h6 := h5.below b6
      have Ox := Ox.below b6 Ox.inside
      have Oy := Oy.below b6 Oy.inside
      clear tc tf xc xf
      clear b6 h5
      go_upto_region 9 with fail
      have Oz := Whole.fresh w6 25 #[.int .u32 y.e, .int .i64 y.d, .int .u32 y.a, .int .u32 y.b, .int .u32 y.c]
      have Ox := Ox.alloc (.cells #[.int .u32 y.e, .int .i64 y.d, .int .u32 y.a, .int .u32 y.b, .int .u32 y.c] 25)
      have Oy := Oy.alloc (.cells #[.int .u32 y.e, .int .i64 y.d, .int .u32 y.a, .int .u32 y.b, .int .u32 y.c] 25)
      have h6 := h6.alloc (.cells #[.int .u32 y.e, .int .i64 y.d, .int .u32 y.a, .int .u32 y.b, .int .u32 y.c] 25)
      change Code.wp _ _ _ _ (w6.alloc (.cells #[.int .u32 y.e, .int .i64 y.d, .int .u32 y.a, .int .u32 y.b, .int .u32 y.c] 25))
      generalize w6.alloc (.cells #[.int .u32 y.e, .int .i64 y.d, .int .u32 y.a, .int .u32 y.b, .int .u32 y.c] 25) = Wg at Ox Oy Oz h6 ⊢
      generalize w6.heap.size = mz at Oz ⊢
      obtain ⟨tc, tf⟩ := all_of h6.one
      obtain ⟨zc, zf⟩ := all_of Oz
      go_wp2_with fail
      refine (C.out _).mono ?_
      rintro e w7 ⟨rfl, b7⟩
      have h7 := h6.below b7
      have Ox := Ox.below b7 Ox.inside
      have Oy := Oy.below b7 Oy.inside
      have Oz := Oz.below b7 Oz.inside
      clear tc tf zc zf
      clear b7 h6
      go_upto_region 10 with fail
      have Ow := Whole.fresh w7 25 #[.int .u32 t.e, .int .i64 t.d, .int .u32 t.a, .int .u32 t.b, .int .u32 t.c]
      have Ox := Ox.alloc (.cells #[.int .u32 t.e, .int .i64 t.d, .int .u32 t.a, .int .u32 t.b, .int .u32 t.c] 25)
      have Oy := Oy.alloc (.cells #[.int .u32 t.e, .int .i64 t.d, .int .u32 t.a, .int .u32 t.b, .int .u32 t.c] 25)
      have Oz := Oz.alloc (.cells #[.int .u32 t.e, .int .i64 t.d, .int .u32 t.a, .int .u32 t.b, .int .u32 t.c] 25)
      have h7 := h7.alloc (.cells #[.int .u32 t.e, .int .i64 t.d, .int .u32 t.a, .int .u32 t.b, .int .u32 t.c] 25)
      change Code.wp _ _ _ _ (w7.alloc (.cells #[.int .u32 t.e, .int .i64 t.d, .int .u32 t.a, .int .u32 t.b, .int .u32 t.c] 25))
      generalize w7.alloc (.cells #[.int .u32 t.e, .int .i64 t.d, .int .u32 t.a, .int .u32 t.b, .int .u32 t.c] 25) = Wh at Ox Oy Oz Ow h7 ⊢
      generalize w7.heap.size = mw at Ow ⊢
      have ne := fun W => run_ne_agg ((run_eqT t t W).trans (by rw [eqT_self]))
      obtain ⟨tc, tf⟩ := all_of h7.one
      obtain ⟨xc, xf⟩ := all_of Ox
      obtain ⟨yc, yf⟩ := all_of Oy
      obtain ⟨zc, zf⟩ := all_of Oz
      obtain ⟨wc, wf⟩ := all_of Ow
      go_wp2_with fail
      refine (L1.out _).mono ?_
      rintro e w8 ⟨rfl, b8⟩
      have h8 := h7.below b8
      have Ox := Ox.below b8 Ox.inside
      have Oy := Oy.below b8 Oy.inside
      have Oz := Oz.below b8 Oz.inside
      have Ow := Ow.below b8 Ow.inside
      clear tc tf xc xf yc yf zc zf wc wf
      clear b8 h7
      obtain ⟨tc, tf⟩ := all_of h8.one
      obtain ⟨xc, xf⟩ := all_of Ox
      obtain ⟨yc, yf⟩ := all_of Oy
      obtain ⟨zc, zf⟩ := all_of Oz
      obtain ⟨wc, wf⟩ := all_of Ow
      go_wp2_with fail
      refine (L2.out _).mono ?_
      rintro e w9 ⟨rfl, b9⟩
      have h9 := h8.below b9
      have Ox := Ox.below b9 Ox.inside
      have Oy := Oy.below b9 Oy.inside
      have Oz := Oz.below b9 Oz.inside
      have Ow := Ow.below b9 Ow.inside
      clear tc tf xc xf yc yf zc zf wc wf
      clear b9 h8
      obtain ⟨tc, tf⟩ := all_of h9.one
      obtain ⟨xc, xf⟩ := all_of Ox
      obtain ⟨yc, yf⟩ := all_of Oy
      obtain ⟨zc, zf⟩ := all_of Oz
      obtain ⟨wc, wf⟩ := all_of Ow
      go_wp2_with fail
      go_meet
      exact h9
  clear h4 Ox HD
  have h3 := hcut
  clear hcut
  go_upto_region 12 with fail
  obtain ⟨tc, tf⟩ := all_of h3.one
  go_wp2_with fail
  refine (LT.out _).mono ?_
  rintro e w10 ⟨rfl, b10⟩
  have h10 := h3.below b10
  clear tc tf 
  clear b10 h3
  go_upto_region 13 with fail
  have Ou := Whole.fresh w10 25 #[.int .u32 u.e, .int .i64 u.d, .int .u32 u.a, .int .u32 u.b, .int .u32 u.c]
  have h10 := h10.alloc (.cells #[.int .u32 u.e, .int .i64 u.d, .int .u32 u.a, .int .u32 u.b, .int .u32 u.c] 25)
  change Code.wp _ _ _ _ (w10.alloc (.cells #[.int .u32 u.e, .int .i64 u.d, .int .u32 u.a, .int .u32 u.b, .int .u32 u.c] 25))
  generalize w10.alloc (.cells #[.int .u32 u.e, .int .i64 u.d, .int .u32 u.a, .int .u32 u.b, .int .u32 u.c] 25) = Wa at Ou h10 ⊢
  generalize w10.heap.size = mu at Ou ⊢
  go_cut [101] from 5 to 101 (fun sv wx => sv = .bool false ∧ One w wx g t)
  case first =>
    obtain ⟨tc, tf⟩ := all_of h10.one
    obtain ⟨uc, uf⟩ := all_of Ou
    by_cases hl : el = 0
    · subst hl
      obtain ⟨L1, L2⟩ := LL.out rfl
      by_cases hn : 0 < n
      · have L2 := L2 hn
        have hn2 : decide (n > 0) = true := by simpa using hn
        go_wp2_with fail
        refine (L1.out _).mono ?_
        rintro e w11 ⟨rfl, b11⟩
        have h11 := h10.below b11
        have Ou := Ou.below b11 Ou.inside
        clear tc tf uc uf
        clear b11 h10
        obtain ⟨tc, tf⟩ := all_of h11.one
        obtain ⟨uc, uf⟩ := all_of Ou
        go_wp2_with fail
        refine (L2.out _).mono ?_
        rintro e w12 ⟨rfl, b12⟩
        have h12 := h11.below b12
        have Ou := Ou.below b12 Ou.inside
        clear tc tf uc uf
        clear b12 h11
        go_wp2_with fail
        go_meet
        exact ⟨by first | rfl | simp, h12⟩
      · clear L2
        go_wp2_with fail
        refine (L1.out _).mono ?_
        rintro e w13 ⟨rfl, b13⟩
        have h13 := h10.below b13
        have Ou := Ou.below b13 Ou.inside
        clear tc tf uc uf
        clear b13 h10
        go_wp2_with fail
        go_meet
        exact ⟨by first | rfl | simp, h13⟩
    · have hk : (el == 0) = false := by simpa using hl
      clear hl LL
      go_wp2_with fail
      go_meet
      exact ⟨rfl, h10⟩
  clear h10 Ou LL LT
  obtain ⟨rfl, h1⟩ := hcut
  have tx := EV.out.below h1.old
  obtain ⟨tc, tf⟩ := all_of h1.one
  go_wp2_with fail
  refine (T.out _ tx).mono ?_
  rintro e v1 ⟨rfl, b1⟩
  have h2 := h1.below b1
  clear b1 tc tf tx h1
  have tx := EV.out.below h2.old
  go_wp2_with fail
  refine (PA.out _ tx).mono ?_
  rintro e v2 ⟨rfl, b2⟩
  have h3 := h2.below b2
  clear b2 tx h2
  go_upto_region 17 with fail
  have Op := Whole.fresh v2 25 #[.int .u32 t.e, .int .i64 t.d, .int .u32 t.a, .int .u32 t.b, .int .u32 t.c]
  have h3 := h3.alloc (.cells #[.int .u32 t.e, .int .i64 t.d, .int .u32 t.a, .int .u32 t.b, .int .u32 t.c] 25)
  change Code.wp _ _ _ _ (v2.alloc (.cells #[.int .u32 t.e, .int .i64 t.d, .int .u32 t.a, .int .u32 t.b, .int .u32 t.c] 25))
  generalize v2.alloc (.cells #[.int .u32 t.e, .int .i64 t.d, .int .u32 t.a, .int .u32 t.b, .int .u32 t.c] 25) = Wb at Op h3 ⊢
  generalize v2.heap.size = mp at Op ⊢
  obtain ⟨tc, tf⟩ := all_of h3.one
  go_wp2_with fail
  refine (WR.out _).mono ?_
  rintro e w14 ⟨rfl, b14⟩
  have h14 := h3.below b14
  have Op := Op.below b14 Op.inside
  clear tc tf 
  clear b14 h3
  go_wp2_with fail
  have hp5 : mp < w14.heap.size := Op.inside
  refine (new_any _ _).mono ?_
  rintro e v5 ⟨rfl, hv5⟩
  go_wp2_with fail
  have RA : RdA v5 w14.heap.size x 0 := hv5 ▸ Whole.fresh w14 74 _
  have h5 : One w v5 g t := hv5 ▸ h14.alloc _
  have Op : Whole v5 mp 25 #[.int .u32 t.e, .int .i64 t.d, .int .u32 t.a, .int .u32 t.b, .int .u32 t.c] := hv5 ▸ Op.alloc _
  have hg5 : g < w14.heap.size := h14.one.inside
  clear hv5 h14
  generalize w14.heap.size = r at RA hg5 hp5 ⊢
  have eq2 := fun W => (run_eqT t t W).trans (by rw [eqT_self])
  obtain ⟨tc, tf⟩ := all_of h5.one
  obtain ⟨pc, pf⟩ := all_of Op
  have RH := Lib.hid RA
  clear RA
  go_region_with (first
    | (go_at_call 22; refine (RX.out r _ (by exact RH.out)).mono ?_; rintro e v6 ⟨rfl, RA2, g1⟩; have t6 := Whole.grown (w := v5.drew) h5.one g1 (by simp; omega); obtain ⟨t6c, t6f⟩ := all_of t6; have RH2 := Lib.hid RA2; clear RA2)
    | (go_at_call 23; refine (EX.out r _ (by exact RH2.out)).mono ?_; rintro e v7 ⟨rfl, RA3, g2⟩)
    | fail)
  all_goals go_wp2_with fail
  all_goals go_ret
  all_goals exact ⟨by first | rfl | simp, up_only (up_only h5.old.drew g1 h5.old.size (by have := h5.base; omega)) g2 (Nat.le_trans h5.old.size g1.size) (by have := h5.base; omega)⟩
theorem walkT (t : Tm) (n : Int) (i : t.In) (n0 : 0 ≤ n) (n1 : n ≤ 4294967295) (w : World) (hE : Env w) : Calls Tryd.prog 4 #[.agg #[.int .u32 t.e, .int .i64 t.d, .int .u32 t.a, .int .u32 t.b, .int .u32 t.c], .int .u32 n] w fun e w' => e = .returned (.bool true) ∧ Below w.heap.size w w' := by
  by_cases z : chk t = 0
  · exact walkB t n i n0 n1 w hE z
  · exact walk0 t n i w hE z
set_option maxRecDepth 100000 in
theorem told (W : World) (args : Array Value) (hE : Env W) (h : Fed Tryd.prog W [25, 22] args) : Calls Tryd.prog 4 args W fun e W' => e = .returned (.bool true) ∧ Below W.heap.size W W' := by
  obtain ⟨v0, v1, rfl⟩ := args2 h.count
  obtain ⟨⟨_, o0⟩, r0⟩ := h.each 0 25 v0 rfl rfl
  obtain ⟨⟨_, o1⟩, r1⟩ := h.each 1 22 v1 rfl rfl
  obtain ⟨a0, q0⟩ := r0 opens_time
  obtain ⟨t0, i0, rfl⟩ := top_time o0 q0
  obtain ⟨a1, q1⟩ := r1 (opens_int Tryd.underlying22)
  obtain ⟨rfl, w1⟩ := top_int Tryd.underlying22 o1 q1
  obtain ⟨l1, u1⟩ := bounds_u32 w1
  exact walkT t0 a1 i0 l1 (by omega) W hE

/-! ### The row and the card -/
set_option maxRecDepth 100000 in
theorem lifted (os : Os) (started : os.Started) (H : Type) (enc : TypeId × Value → H) :
    ReturnsInHanded {} Tryd.checked os 4 .any (fun w args => (Rows.stampBackSpec.pre enc Tryd.prog Tryd.f4 Rows.stampBackRow.domain false w args ∧ laidMetH Tryd.prog Rows.stampBackRow.laid w) ∧ sizedMet enc Tryd.prog Tryd.f4 (OpenSpec.ofChange Rows.stampBackSpec) false w args) (Rows.stampBackSpec.post enc Tryd.prog Tryd.f4 false true false false) :=
  liftL (ts := [25, 22]) rfl started (by kernel_rfl) Tryd.func4 (by kernel_rfl) (by kernel_rfl) (by kernel_rfl) rfl
    (fun ds h => by
      match ds, h with
      | [_, _], _ => rfl)
    (ChangeSpec.witness_shaped (enc := enc) (C := Tryd.checked) (os := os) (X := fun w _ => laidMetH Tryd.prog laid7 w) false (Go.Proofs.YtilkdpobkcocoaaDoor.stamp.start os) #[.agg #[.int .u32 0, .int .i64 0, .int .u32 0, .int .u32 0, .int .u32 0], .int .u32 0] 8 (World.laidAll_os _ _ _)
      (World.shaped_of_ZipB (by kernel_rfl) (by kernel_rfl)) (by kernel_rfl) (by kernel_rfl) (by kernel_rfl) (start_met os _)) told

theorem over : Rows.StampBackSaid :=
  OpenClaim.holds_of_wide 4 Tryd.f4 rfl rfl rfl rfl rfl rfl rfl ⟨rfl, rfl, rfl, rfl, rfl⟩ rfl rfl rfl rfl rfl (by kernel_rfl) Tryd.func4 (by kernel_rfl)
    (of_decide_eq_true (by kernel_rfl)) (by unfold Func.isWrapper; first | (rw [if_pos (by decide +kernel)]; kernel_rfl) | (rw [if_neg (by decide +kernel)]; exact ⟨rfl, rfl⟩))
    (fun os started H enc _ => lifted os started H enc)

theorem proved : Rows.StampBackCardSaid :=
  Claim7.holds_tied_plain_at .later [] [.data, .data, .data, .data, .sentinel, .sentinel, .pinned] true (true, "61b3af2180a6fdbd4a36587fcba9f14d69e69bf192a80ea1c907718273211d0a") true
    over (fun _ h => by cases h) (by kernel_rfl) (fun _ h => by cases h) stampBack_row_tie rfl ⟨rfl, rfl⟩ (by kernel_rfl) rfl
    (fun f fn hf hfn => by
      obtain rfl : f = 4 := Option.some.inj ((show Tryd.prog.funcNamed "watershed/watershedlaw04.StampBack" = some 4 by kernel_rfl).symm.trans hf) |>.symm
      obtain rfl : fn = Tryd.f4 := (Option.some.inj (Tryd.func4.symm.trans hfn)).symm
      exact ⟨by kernel_rfl, fun j t ht => by
        rw [Tryd.params4] at ht
        have hm : t ∈ [25, 22] := by simpa using Array.mem_of_getElem? ht
        have hall : ([25, 22].all fun u => !Tryd.prog.wantsStandIn u) = true := by kernel_rfl
        exact (show Tryd.prog.wantsStandIn t = false by simpa using List.all_eq_true.1 hall t hm)⟩)
    (by kernel_rfl)
#print axioms proved

end Go.Proofs.YtilkdpobkcocoaaDoor.stampBack
