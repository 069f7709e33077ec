/-
  The word for a loop, of the program and of the document; how many numbers a kind has.
  graph.opWords (by gen_gow.py).
-/
import Derived.Test.YtpblpjopinllcaaGreatDoorJLayB
import Derived.Test.YtpblpjopinllcaaGreatDoorJGsc
import Derived.Test.YtpblpjopinllcaaGreatDoorJGw
import Derived.Test.YtpblpjopinllcaaGreatDoorJOg
import Derived.Deep.CutRange
namespace Go.Proofs.YtpblpjopinllcaaGreatDoor.graph
open Go.ChangeShapes Go.WideShapes Go.ChangeAt Go.RowKit Go.Shelf
open Go.Proofs.YtpblpjopinllcaaGreatDoor.opened Go.Proofs.YtpblpjopinllcaaGreatDoor.block Go.Proofs.YtpblpjopinllcaaGreatDoor.words
def loopN (g : Gr) (k : Int) : Bs := if k < 0 then [45] else match g.l[k.toNat]? with
  | none => []
  | some x => x.n
theorem inW_eq (g : Gr) (k : Int) : inW g k = [105, 110, 61] ++ loopN g k := rfl
theorem str_app9 (a b : Bs) : ({ data := a.toArray } : ByteArray) ++ { data := b.toArray } = ⟨(a ++ b).toArray⟩ := ByteArray.ext (by simp)
set_option maxRecDepth 100000 in
theorem inWord_any (v : Gv) (g : Gr) (F : ∀ x ∈ g.l, x.n.length ≤ 100000) (k : Int) (h0 : -1 ≤ k) (h1 : k < g.l.length) (w : World) (h : Lies4 w v g) :
    Calls Tryz.prog 83 #[gV v g, .int .i64 k] w fun e w' => e = .returned (sV (inW g k)) ∧ Below w.heap.size w w' := by
  obtain ⟨va, vb, vd, ve, vi, vj, vk, vm⟩ := v
  unfold gV inW
  dsimp only
  by_cases hk : k = -1
  · subst hk
    go_enter Tryz.func83, Tryz.ntmps83
    go_wp2_with fail
    go_ret
    exact ⟨rfl, fresh1 _ _⟩
  · obtain ⟨n, rfl⟩ : ∃ n : Nat, k = n := ⟨k.toNat, by omega⟩
    have hn : n < g.l.length := by omega
    obtain ⟨x, hx⟩ : ∃ x, g.l[n]? = some x := ⟨g.l[n], List.getElem?_eq_getElem hn⟩
    have hk2 : ((n : Int) == -1) = false := by rw [beq_eq_false_iff_ne]; omega
    rw [if_neg (by omega), Int.toNat_natCast, hx]
    dsimp only
    have b1 := fresh1 w (.cells #[.slice va g.c.length vi, .slice vb g.l.length vj, .slice vd g.o.length vk, .slice ve g.h.length vm] 27)
    have OX := Whole.fresh w 27 #[.slice va g.c.length vi, .slice vb g.l.length vj, .slice vd g.o.length vk, .slice ve g.h.length vm]
    obtain ⟨bb, o1, hA, hb1, c0, -, -⟩ := at_lo (h.below b1).l hx
    change vb = _ at hA
    subst hA
    go_enter Tryz.func83, Tryz.ntmps83
    go_upto_region 1 with fail
    change Code.wp _ _ _ _ (w.alloc (.cells #[.slice va g.c.length vi, .slice (some ⟨bb, o1, none⟩) g.l.length vj, .slice vd g.o.length vk, .slice ve g.h.length vm] 27))
    generalize w.alloc (.cells #[.slice va g.c.length vi, .slice (some ⟨bb, o1, none⟩) g.l.length vj, .slice vd g.o.length vk, .slice ve g.h.length vm] 27) = w1 at b1 OX hb1 c0 ⊢
    obtain ⟨gg, hgg⟩ : ∃ gg, w.heap.size = gg := ⟨_, rfl⟩
    have k1 := OX.read 1
    rw [hgg] at k1 ⊢
    have hl := F x (List.mem_of_getElem? hx)
    clear hk
    have ha : ({ data := #[105, 110, 61] } : ByteArray) ++ { data := x.n.toArray } = ⟨([105, 110, 61] ++ x.n).toArray⟩ := str_app9 [105, 110, 61] x.n
    clear OX hx
    replace b1 := Lib.hid b1
    clear hgg
    go_wp2_with fail
    go_ret
    exact ⟨rfl, b1.out⟩
theorem more_any (k : Int) (w : World) : Calls Tryz.prog 229 #[.int .i64 k] w fun e w' => e = .returned (.int .i64 (moreK k)) ∧ w' = w := by
  by_cases a3 : k = 3
  · subst a3
    go_enter Tryz.func229, Tryz.ntmps229
    go_wp2
    go_ret
    exact ⟨rfl, rfl⟩
  by_cases a4 : k = 4
  · subst a4
    go_enter Tryz.func229, Tryz.ntmps229
    go_wp2
    go_ret
    exact ⟨rfl, rfl⟩
  by_cases a6 : k = 6
  · subst a6
    go_enter Tryz.func229, Tryz.ntmps229
    go_wp2
    go_ret
    exact ⟨rfl, rfl⟩
  by_cases a10 : k = 10
  · subst a10
    go_enter Tryz.func229, Tryz.ntmps229
    go_wp2
    go_ret
    exact ⟨rfl, rfl⟩
  have f3 : (k == 3) = false := by rw [beq_eq_false_iff_ne]; exact a3
  have f4 : (k == 4) = false := by rw [beq_eq_false_iff_ne]; exact a4
  have f6 : (k == 6) = false := by rw [beq_eq_false_iff_ne]; exact a6
  have f10 : (k == 10) = false := by rw [beq_eq_false_iff_ne]; exact a10
  have e : moreK k = 0 := by simp [moreK, a3, a4, a6, a10]
  rw [e]
  clear e a3 a4 a6 a10
  go_enter Tryz.func229, Tryz.ntmps229
  go_wp2
  go_ret
  exact ⟨rfl, rfl⟩
/-- Two builders' contents in one block are as long as one another. -/
theorem BL.len {w : World} {B b : Nat} {l m : Bs} (h : BL w B b l) (k : BL w B b m) : l.length = m.length := by
  have e : ∀ {p q}, Lib.BuilderAt 150 5 B b p (Lib.byteCells l) w → Lib.BuilderAt 150 5 B b q (Lib.byteCells m) w → l.length = m.length := fun x y => by
    have := x.same_length y
    rwa [Lib.byteCells_length, Lib.byteCells_length] at this
  rcases h.1 with x | x <;> rcases k.1 with y | y <;> exact e x y
/-- A row of words, or what became of it is written. -/
def LoneS (z : Nat) (xs : List Bs) (D : World → Prop) : Value → World → Prop := fun u w => ∃ gx, u = .slice (some ⟨gx, 0, none⟩) xs.length xs.length ∧ z ≤ gx ∧ (Whole w gx 9 (xs.map sV).toArray ∨ D w)
end Go.Proofs.YtpblpjopinllcaaGreatDoor.graph
namespace Go.Proofs.YtpblpjopinllcaaGreatDoor.graph
open Go.ChangeShapes Go.WideShapes Go.ChangeAt Go.RowKit Go.Shelf
open Go.Proofs.YtpblpjopinllcaaGreatDoor.opened Go.Proofs.YtpblpjopinllcaaGreatDoor.block Go.Proofs.YtpblpjopinllcaaGreatDoor.words Go.Proofs.YtpblpjopinllcaaGreatDoor.region
theorem kRow_is (k : Nat) (h1 : 1 ≤ k) (h2 : k ≤ 14) : ∃ a1 a3 a4 a5 a6 : Int, kRow k = [sV (wordB k), .int .i64 a1, .int .i64 (moreK k), .int .i64 a3, .int .i64 a4, .int .i64 a5, .int .i64 a6] := by
  match k, h1, h2 with
  | 1, _, _ => exact ⟨_, _, _, _, _, rfl⟩
  | 2, _, _ => exact ⟨_, _, _, _, _, rfl⟩
  | 3, _, _ => exact ⟨_, _, _, _, _, rfl⟩
  | 4, _, _ => exact ⟨_, _, _, _, _, rfl⟩
  | 5, _, _ => exact ⟨_, _, _, _, _, rfl⟩
  | 6, _, _ => exact ⟨_, _, _, _, _, rfl⟩
  | 7, _, _ => exact ⟨_, _, _, _, _, rfl⟩
  | 8, _, _ => exact ⟨_, _, _, _, _, rfl⟩
  | 9, _, _ => exact ⟨_, _, _, _, _, rfl⟩
  | 10, _, _ => exact ⟨_, _, _, _, _, rfl⟩
  | 11, _, _ => exact ⟨_, _, _, _, _, rfl⟩
  | 12, _, _ => exact ⟨_, _, _, _, _, rfl⟩
  | 13, _, _ => exact ⟨_, _, _, _, _, rfl⟩
  | 14, _, _ => exact ⟨_, _, _, _, _, rfl⟩
  | k + 15, _, h => omega
theorem more_le (k : Int) : moreK k ≤ 2 := by
  unfold moreK
  split
  · exact Nat.le_refl _
  · split
    · exact Nat.le_succ _
    · exact Nat.zero_le _
theorem oqW_len (g : Gr) (x : Oq) : (oqWords g x).length ≤ 1000 := by
  unfold oqWords
  rw [List.length_append, List.length_take]
  simp
  omega
theorem ownS_whole {w : World} {base gy : Nat} (hb : base ≤ gy) {N : List Bs} (hl : N.length ≤ 1000) (hW : Whole w gy 9 (N.map sV).toArray) : OwnS w base (.slice (some ⟨gy, 0, none⟩) N.length N.length) N :=
  ⟨by simp, .inr ⟨gy, N.length, _, rfl, hb, hW, Nat.le_refl _, by unfold maxLen; omega, by simp, by simp [List.take_of_length_le]⟩⟩
set_option maxRecDepth 100000 in
set_option maxHeartbeats 4000000 in
theorem opWords_any (v : Gv) (g : Gr) (x : Oq) (FL : ∀ y ∈ g.l, y.n.length ≤ 100000) (FC : ∀ y ∈ g.c, y.n.length ≤ 100000) (IO : I64 x.k ∧ I64 x.l ∧ I64 x.a ∧ I64 x.x ∧ I64 x.y) (ho : opE g x = 0) (w : World) (h : Lies4 w v g) (K : KT w) (T10 : Tab10 w) :
    Calls Tryz.prog 84 #[gV v g, .agg #[sV x.n, .int .i64 x.k, .int .i64 x.l, .int .i64 x.a, .int .i64 x.x, .int .i64 x.y]] w fun e w' => ∃ (D : Option Addr) (c : Nat), e = .returned (.slice D (oqWords g x).length c) ∧ OwnS w' w.heap.size (.slice D (oqWords g x).length c) (oqWords g x) ∧ Below w.heap.size w w' := by
  obtain ⟨⟨p1, p2⟩, ⟨l0, l1⟩, ⟨a0, a1'⟩, -, -⟩ := opE_parts ho
  have IW := inWord_any v g FL x.l l0 l1
  obtain ⟨va, vb, vd, ve, vi, vj, vk, vm⟩ := v
  obtain ⟨xn, xk, xl, xa, xx, xy⟩ := x
  dsimp only at p1 p2 l0 l1 a0 a1' IO IW ⊢
  unfold gV at IW ⊢
  dsimp only at IW ⊢
  obtain ⟨k, rfl⟩ : ∃ k : Nat, xk = k := ⟨xk.toNat, by omega⟩
  obtain ⟨m, rfl⟩ : ∃ m : Nat, xa = m := ⟨xa.toNat, by omega⟩
  obtain ⟨-, -, -, ⟨x0, x1⟩, y0, y1⟩ := IO
  have NX := Lib.hid (fun w (ht : Tab10 w) => number9_any xx x0 x1 w ht)
  have NY := Lib.hid (fun w (ht : Tab10 w) => number9_any xy y0 y1 w ht)
  have LX := Lib.itoa_length_le xx x0 x1
  have LY := Lib.itoa_length_le xy y0 y1
  clear x0 x1 y0 y1
  have hm : m < g.c.length := by omega
  obtain ⟨y, hy⟩ : ∃ y, g.c[m]? = some y := ⟨g.c[m], List.getElem?_eq_getElem hm⟩
  have hyl := FC y (List.mem_of_getElem? hy)
  have hnc : nameC g m = y.n := by simp [nameC, hy]
  have hWd : oqWords g ⟨xn, k, xl, m, xx, xy⟩ = [[111, 112], xn, wordB k, inW g xl, [97, 116, 61] ++ y.n] ++ ([[97, 61] ++ Lib.itoa xx, [98, 61] ++ Lib.itoa xy].take (moreK k)) := by unfold oqWords; rw [← hnc]
  rw [hWd]
  obtain ⟨bc, oc, hA, hbc, hcy, -⟩ := at_cl h.c hy
  change va = _ at hA
  subst hA
  have hk15 : k < 15 := by omega
  obtain ⟨a1, a3, a4, a5, a6, hkr⟩ := kRow_is k (by omega) (by omega)
  have hmore : moreK k ≤ 2 := more_le k
  generalize inW g xl = IWL at IW hWd ⊢
  generalize wordB k = WBK at hkr ⊢
  generalize moreK k = mk at hkr hmore ⊢
  have H := Lib.hid h
  have T0 := Lib.hid T10
  have K0 := Lib.hid K
  replace IW := Lib.hid IW
  clear hnc hWd hy ho FL FC a0 a1' p1 l0 l1 h T10 K
  have c0 := (K0.out.c k hk15 0 (by decide)).trans (by rw [hkr])
  go_enter Tryz.func84, Tryz.ntmps84
  go_upto_region 1 with fail
  change Code.wp _ _ _ _ ((w.alloc (.cells #[.slice (some ⟨bc, oc, none⟩) g.c.length vi, .slice vb g.l.length vj, .slice vd g.o.length vk, .slice ve g.h.length vm] 27)).alloc (.cells #[sV xn, .int .i64 (k : Int), .int .i64 xl, .int .i64 (m : Int), .int .i64 xx, .int .i64 xy] 145))
  clear c0
  have b1 := fresh1 w (.cells #[.slice (some ⟨bc, oc, none⟩) g.c.length vi, .slice vb g.l.length vj, .slice vd g.o.length vk, .slice ve g.h.length vm] 27)
  have OG := Whole.fresh w 27 #[.slice (some ⟨bc, oc, none⟩) g.c.length vi, .slice vb g.l.length vj, .slice vd g.o.length vk, .slice ve g.h.length vm]
  have e1 : (w.alloc (.cells #[.slice (some ⟨bc, oc, none⟩) g.c.length vi, .slice vb g.l.length vj, .slice vd g.o.length vk, .slice ve g.h.length vm] 27)).heap.size = w.heap.size + 1 := by rw [size_alloc]
  generalize w.alloc (.cells #[.slice (some ⟨bc, oc, none⟩) g.c.length vi, .slice vb g.l.length vj, .slice vd g.o.length vk, .slice ve g.h.length vm] 27) = w1 at b1 OG e1 ⊢
  have b2 := fresh1 w1 (.cells #[sV xn, .int .i64 (k : Int), .int .i64 xl, .int .i64 (m : Int), .int .i64 xx, .int .i64 xy] 145)
  have OO := Whole.fresh w1 145 #[sV xn, .int .i64 (k : Int), .int .i64 xl, .int .i64 (m : Int), .int .i64 xx, .int .i64 xy]
  have OG2 := OG.below b2 OG.inside
  rw [e1] at OO
  generalize w1.alloc (.cells #[sV xn, .int .i64 (k : Int), .int .i64 xl, .int .i64 (m : Int), .int .i64 xx, .int .i64 xy] 145) = w2 at b2 OO OG2 ⊢
  have B2 := Lib.hid (b1.trans (b2.mono b1.size))
  clear b1 b2 OG e1
  obtain ⟨gg, hgg⟩ : ∃ gg, w.heap.size = gg := ⟨_, rfl⟩
  rw [hgg] at OG2 OO ⊢
  obtain ⟨xo, hxo⟩ : ∃ xo, gg + 1 = xo := ⟨_, rfl⟩
  rw [hxo] at OO ⊢
  clear hxo
  have hgw := Lib.hid hgg
  clear hgg
  replace OG2 := Lib.hid OG2
  replace OO := Lib.hid OO
  have xk1 := OO.out.read 1
  have KA := (K0.out.below B2.out).c k hk15
  rw [hkr] at KA
  have q0 := KA 0 (by decide)
  have q1 := KA 1 (by decide)
  have q2 := KA 2 (by decide)
  have q3 := KA 3 (by decide)
  have q4 := KA 4 (by decide)
  have q5 := KA 5 (by decide)
  have q6 := KA 6 (by decide)
  simp only [List.getElem?_cons_zero, List.getElem?_cons_succ, Nat.add_zero] at q0 q1 q2 q3 q4 q5 q6
  clear KA hkr
  go_upto_region 2 with fail
  change Code.wp _ _ _ _ (w2.alloc (.cells #[sV WBK, .int .i64 a1, .int .i64 (mk : Int), .int .i64 a3, .int .i64 a4, .int .i64 a5, .int .i64 a6] 235))
  clear xk1 q0 q1 q2 q3 q4 q5 q6
  have b3 := fresh1 w2 (.cells #[sV WBK, .int .i64 a1, .int .i64 (mk : Int), .int .i64 a3, .int .i64 a4, .int .i64 a5, .int .i64 a6] 235)
  have OK := Lib.hid (Whole.fresh w2 235 #[sV WBK, .int .i64 a1, .int .i64 (mk : Int), .int .i64 a3, .int .i64 a4, .int .i64 a5, .int .i64 a6])
  have OG3 := Lib.hid (OG2.out.below b3 OG2.out.inside)
  have OO3 := Lib.hid (OO.out.below b3 OO.out.inside)
  have B3 := Lib.hid (B2.out.trans (b3.mono B2.out.size))
  clear b3 OG2 OO B2
  generalize w2.alloc (.cells #[sV WBK, .int .i64 a1, .int .i64 (mk : Int), .int .i64 a3, .int .i64 a4, .int .i64 a5, .int .i64 a6] 235) = wx at OK OG3 OO3 B3 ⊢
  generalize w2.heap.size = kk at OK ⊢
  have GG : ∀ w7, Below wx.heap.size wx w7 → ∀ i, w7.cell? ⟨gg, i, none⟩ = #[.slice (some ⟨bc, oc, none⟩) g.c.length vi, .slice vb g.l.length vj, .slice vd g.o.length vk, .slice ve g.h.length vm][i]? := fun w7 h7 => (OG3.out.below h7 OG3.out.inside).read
  have XX : ∀ w7, Below wx.heap.size wx w7 → ∀ i, w7.cell? ⟨xo, i, none⟩ = #[sV xn, .int .i64 (k : Int), .int .i64 xl, .int .i64 (m : Int), .int .i64 xx, .int .i64 xy][i]? := fun w7 h7 => (OO3.out.below h7 OO3.out.inside).read
  have KK : ∀ w7, Below wx.heap.size wx w7 → ∀ i, w7.cell? ⟨kk, i, none⟩ = #[sV WBK, .int .i64 a1, .int .i64 (mk : Int), .int .i64 a3, .int .i64 a4, .int .i64 a5, .int .i64 a6][i]? := fun w7 h7 => (OK.out.below h7 OK.out.inside).read
  have HW : ∀ w7, Below wx.heap.size wx w7 → Below w.heap.size w w7 := fun w7 h7 => B3.out.trans (h7.mono B3.out.size)
  have EC : ∀ w7, Below wx.heap.size wx w7 → w7.cell? ⟨bc, oc + m * 2, none⟩ = some (sV y.n) := fun w7 h7 => ((HW w7 h7).cell (p := ⟨bc, oc + m * 2, none⟩) hbc).trans hcy
  replace GG := Lib.hid GG
  replace XX := Lib.hid XX
  replace KK := Lib.hid KK
  replace HW := Lib.hid HW
  replace EC := Lib.hid EC
  clear hcy hbc
  refine region_full 44 [] [] (fun _ => false) (fun w7 => Below wx.heap.size wx w7 ∧ wx.heap.size ≤ w7.heap.size) ?hR ?r0 [pdOne 0 (Is (.pointer (some ⟨xo, 0, none⟩))), pdOne 1 (Is (sV xn)), pdOne 2 (Is (.pointer (some ⟨kk, 0, none⟩))), pdOne 3 (Is (sV WBK)), pdOne 4 (Is (.agg #[.slice (some ⟨bc, oc, none⟩) g.c.length vi, .slice vb g.l.length vj, .slice vd g.o.length vk, .slice ve g.h.length vm])), pdOne 5 (Is (.pointer (some ⟨xo, 2, none⟩))), pdOne 6 (Is (.int .i64 xl)), pdOne 7 (Is (sV IWL)), pdOne 8 (Is (.pointer (some ⟨gg, 0, none⟩))), pdOne 9 (Is (.slice (some ⟨bc, oc, none⟩) g.c.length vi)), pdOne 10 (Is (.pointer (some ⟨xo, 3, none⟩))), pdOne 11 (Is (.int .i64 (m : Int))), pdOne 12 (Is (.pointer (some ⟨bc, oc + m * 2, none⟩))), pdOne 13 (Is (.pointer (some ⟨bc, oc + m * 2, none⟩))), pdOne 14 (Is (sV y.n)), pdOne 15 (Is (sV ([97, 116, 61] ++ y.n))), pdOne 16 (LoneS wx.heap.size ([[111, 112], xn, WBK, IWL, [97, 116, 61] ++ y.n] : List Bs) (fun w => False)), pdTwo 16 17 (fun u y w => y = u)] (fun _ _ => True) (by kernel_rfl) rfl (by kernel_rfl) (by kernel_rfl) (by kernel_rfl) (by kernel_rfl) ?keep ?hO ?h0 ?tell
  case hR => exact fun wa wb hb ⟨h1, h2⟩ => ⟨h1.trans (hb.mono h1.size), Nat.le_trans h2 hb.size⟩
  case r0 => exact ⟨Below.refl _ _, Nat.le_refl _⟩
  case keep => exact ⟨keep_one (keeps_is _), keep_one (keeps_is _), keep_one (keeps_is _), keep_one (keeps_is _), keep_one (keeps_is _), keep_one (keeps_is _), keep_one (keeps_is _), keep_one (keeps_is _), keep_one (keeps_is _), keep_one (keeps_is _), keep_one (keeps_is _), keep_one (keeps_is _), keep_one (keeps_is _), keep_one (keeps_is _), keep_one (keeps_is _), keep_one (keeps_is _), keep_one (fun _ _ _ hb h => h.imp fun gx h => ⟨h.1, h.2.1, h.2.2.imp (fun k => k.below hb k.inside) (fun k => k)⟩), keep_two (fun _ _ _ _ _ h => h), trivial⟩
  case hO => exact fun _ _ _ _ h => h
  case h0 => exact fun _ _ => trivial
  case tell =>
    intro fin hfin
    simp [lexPut, Act.put] at hfin
    simp only [TellF]
    refine ⟨⟨?_, ?_, ?_, ?_, ?_, ?_, ?_, ?_, ?_, ?_, ?_, ?_, ?_, ?_, ?_, ?_, ?_, ?_, trivial⟩, ?_⟩
    · intro v2 w7 hr hd
      refine yields_run (u := .pointer (some ⟨xo, 0, none⟩)) (w' := w7) ?_ (Below.refl _ _) rfl
      unfold execOp
      simp [go_sem, Act.eval]
    · intro v2 w7 hr hd
      have h0 : v2 0 = _ := hd 0 (by kernel_rfl)
      have c0 := (XX.out w7 hr.1 0)
      refine yields_run (u := sV xn) (w' := w7) ?_ (Below.refl _ _) rfl
      unfold execOp
      simp [go_sem, Act.eval, Act.put, h0, c0]
    · intro v2 w7 hr hd
      refine yields_run (u := .pointer (some ⟨kk, 0, none⟩)) (w' := w7) ?_ (Below.refl _ _) rfl
      unfold execOp
      simp [go_sem, Act.eval, Act.put]
    · intro v2 w7 hr hd
      have h2 : v2 2 = _ := hd 2 (by kernel_rfl)
      have c0 := (KK.out w7 hr.1 0)
      refine yields_run (u := sV WBK) (w' := w7) ?_ (Below.refl _ _) rfl
      unfold execOp
      simp [go_sem, Act.eval, Act.put, h2, c0]
    · intro v2 w7 hr hd
      have c0 := (GG.out w7 hr.1 0)
      have c1 := (GG.out w7 hr.1 1)
      have c2 := (GG.out w7 hr.1 2)
      have c3 := (GG.out w7 hr.1 3)
      refine yields_run (u := .agg #[.slice (some ⟨bc, oc, none⟩) g.c.length vi, .slice vb g.l.length vj, .slice vd g.o.length vk, .slice ve g.h.length vm]) (w' := w7) ?_ (Below.refl _ _) rfl
      unfold execOp
      simp [go_sem, Act.eval, Act.put, c0, c1, c2, c3]
    · intro v2 w7 hr hd
      refine yields_run (u := .pointer (some ⟨xo, 2, none⟩)) (w' := w7) ?_ (Below.refl _ _) rfl
      unfold execOp
      simp [go_sem, Act.eval, Act.put]
    · intro v2 w7 hr hd
      have h5 : v2 5 = _ := hd 5 (by kernel_rfl)
      have c0 := (XX.out w7 hr.1 2)
      refine yields_run (u := .int .i64 xl) (w' := w7) ?_ (Below.refl _ _) rfl
      unfold execOp
      simp [go_sem, Act.eval, Act.put, h5, c0]
    · intro v2 w7 hr hd
      have h4 : v2 4 = _ := hd 4 (by kernel_rfl)
      have h6 : v2 6 = _ := hd 6 (by kernel_rfl)
      refine yields_call (f := 83) rfl (vs := #[.agg #[.slice (some ⟨bc, oc, none⟩) g.c.length vi, .slice vb g.l.length vj, .slice vd g.o.length vk, .slice ve g.h.length vm], .int .i64 xl]) (by simp [Act.eval, Act.put, h4, h6]) rfl Tryz.func83 (by kernel_rfl) (by kernel_rfl) ((IW.out w7 (H.out.below (HW.out w7 hr.1))).mono fun e w8 ⟨he, hb⟩ => ⟨_, he, hb, rfl⟩)
    · intro v2 w7 hr hd
      refine yields_run (u := .pointer (some ⟨gg, 0, none⟩)) (w' := w7) ?_ (Below.refl _ _) rfl
      unfold execOp
      simp [go_sem, Act.eval, Act.put]
    · intro v2 w7 hr hd
      have h8 : v2 8 = _ := hd 8 (by kernel_rfl)
      have c0 := (GG.out w7 hr.1 0)
      refine yields_run (u := .slice (some ⟨bc, oc, none⟩) g.c.length vi) (w' := w7) ?_ (Below.refl _ _) rfl
      unfold execOp
      simp [go_sem, Act.eval, Act.put, h8, c0]
    · intro v2 w7 hr hd
      refine yields_run (u := .pointer (some ⟨xo, 3, none⟩)) (w' := w7) ?_ (Below.refl _ _) rfl
      unfold execOp
      simp [go_sem, Act.eval, Act.put]
    · intro v2 w7 hr hd
      have h10 : v2 10 = _ := hd 10 (by kernel_rfl)
      have c0 := (XX.out w7 hr.1 3)
      refine yields_run (u := .int .i64 (m : Int)) (w' := w7) ?_ (Below.refl _ _) rfl
      unfold execOp
      simp [go_sem, Act.eval, Act.put, h10, c0]
    · intro v2 w7 hr hd
      have h9 : v2 9 = _ := hd 9 (by kernel_rfl)
      have h11 : v2 11 = _ := hd 11 (by kernel_rfl)
      exact yields_index (b := bc) (off := oc) (n := g.c.length) (c := vi) (i := m) (m := 2) rfl (by simp [Act.eval, Act.put, h9, h11]) (by simp [Act.eval, Act.put, h9, h11]) hm Tryz.underlying22 (by intro w; simp [Tryz.sizeOf143])
    · intro v2 w7 hr hd
      have h12 : v2 12 = _ := hd 12 (by kernel_rfl)
      refine yields_run (u := .pointer (some ⟨bc, oc + m * 2, none⟩)) (w' := w7) ?_ (Below.refl _ _) rfl
      unfold execOp
      simp [go_sem, Act.eval, Act.put, h12]
    · intro v2 w7 hr hd
      have h13 : v2 13 = _ := hd 13 (by kernel_rfl)
      have c0 := (EC.out w7 hr.1)
      refine yields_run (u := sV y.n) (w' := w7) ?_ (Below.refl _ _) rfl
      unfold execOp
      simp [go_sem, Act.eval, Act.put, h13, c0]
    · intro v2 w7 hr hd
      have h14 : v2 14 = _ := hd 14 (by kernel_rfl)
      have ha : ({ data := #[97, 116, 61] } : ByteArray) ++ { data := (y.n).toArray } = ⟨([97, 116, 61] ++ y.n).toArray⟩ := str_app9 [97, 116, 61] (y.n)
      refine yields_run (u := sV ([97, 116, 61] ++ y.n)) (w' := w7) ?_ (Below.refl _ _) rfl
      unfold execOp
      simp [go_sem, Act.eval, Act.put, h14, ha]
      omega
    · intro v2 w7 hr hd
      have h1 : v2 1 = _ := hd 1 (by kernel_rfl)
      have h3 : v2 3 = _ := hd 3 (by kernel_rfl)
      have h7 : v2 7 = _ := hd 7 (by kernel_rfl)
      have h15 : v2 15 = _ := hd 15 (by kernel_rfl)
      refine yields_run (u := .slice (some ⟨w7.heap.size, 0, none⟩) (([[111, 112], xn, WBK, IWL, [97, 116, 61] ++ y.n] : List Bs)).length (([[111, 112], xn, WBK, IWL, [97, 116, 61] ++ y.n] : List Bs)).length) (w' := w7.alloc (.cells ((([[111, 112], xn, WBK, IWL, [97, 116, 61] ++ y.n] : List Bs)).map sV).toArray 9)) ?_ (fresh1 w7 _) ⟨w7.heap.size, rfl, hr.2, .inl (Whole.fresh w7 _ _)⟩
      unfold execOp
      simp [go_sem, Act.eval, Act.put, h1, h3, h7, h15, sV]
    · intro v2 w7 hr hd
      refine yields_run (u := v2 16) (w' := w7) ?_ (Below.refl _ _) rfl
      unfold execOp
      simp [go_sem, Act.eval, Act.put]
    · intro v2 w7 hr hv
      obtain ⟨gy, hz, hyl, hw⟩ : LoneS wx.heap.size ([[111, 112], xn, WBK, IWL, [97, 116, 61] ++ y.n] : List Bs) (fun _ => False) (v2 16) w7 := hv 16 (by decide)
      have hw := hw.resolve_right (fun k => k)
      have h17 : v2 17 = v2 16 := hv 17 (by decide)
      have hR := Lib.hid hr.1
      have hS := Lib.hid hr.2
      rw [hfin, h17, hz]
      clear hfin hv hr hz h17
      have WY := Lib.hid hw
      have HY := Lib.hid hyl
      clear hw hyl
      go_upto_region 3 with fail
      have GG3 : ∀ w8, Below w7.heap.size w7 w8 → Below wx.heap.size wx w8 := fun w8 h8 => hR.out.trans (h8.mono hR.out.size)
      replace GG3 := Lib.hid GG3
      refine region_full 44 [] [] (fun _ => false) (fun w8 => Below w7.heap.size w7 w8 ∧ w7.heap.size ≤ w8.heap.size) ?hR ?r0 [pdOne 0 (Is (.pointer (some ⟨xo, 4, none⟩))), pdOne 1 (Is (.int .i64 xx)), pdOne 2 (Is (sV (Lib.itoa xx))), pdOne 3 (Is (sV ([97, 61] ++ Lib.itoa xx))), pdOne 4 (Is (.pointer (some ⟨xo, 5, none⟩))), pdOne 5 (Is (.int .i64 xy)), pdOne 6 (Is (sV (Lib.itoa xy))), pdOne 7 (Is (sV ([98, 61] ++ Lib.itoa xy))), pdOne 8 (LoneS w7.heap.size ([[97, 61] ++ Lib.itoa xx, [98, 61] ++ Lib.itoa xy] : List Bs) (fun w => False)), pdTwo 8 9 (fun u y w => y = u)] (fun _ _ => True) (by kernel_rfl) rfl (by kernel_rfl) (by kernel_rfl) (by kernel_rfl) (by kernel_rfl) ?keep ?hO ?h0 ?tell
      case hR => exact fun wa wb hb ⟨h1, h2⟩ => ⟨h1.trans (hb.mono h1.size), Nat.le_trans h2 hb.size⟩
      case r0 => exact ⟨Below.refl _ _, Nat.le_refl _⟩
      case keep => exact ⟨keep_one (keeps_is _), keep_one (keeps_is _), keep_one (keeps_is _), keep_one (keeps_is _), keep_one (keeps_is _), keep_one (keeps_is _), keep_one (keeps_is _), keep_one (keeps_is _), keep_one (fun _ _ _ hb h => h.imp fun gx h => ⟨h.1, h.2.1, h.2.2.imp (fun k => k.below hb k.inside) (fun k => k)⟩), keep_two (fun _ _ _ _ _ h => h), trivial⟩
      case hO => exact fun _ _ _ _ h => h
      case h0 => exact fun _ _ => trivial
      case tell =>
        intro fin hfin
        simp [lexPut, Act.put] at hfin
        simp only [TellF]
        refine ⟨⟨?_, ?_, ?_, ?_, ?_, ?_, ?_, ?_, ?_, ?_, trivial⟩, ?_⟩
        · intro v3 w8 hr hd
          refine yields_run (u := .pointer (some ⟨xo, 4, none⟩)) (w' := w8) ?_ (Below.refl _ _) rfl
          unfold execOp
          simp [go_sem, Act.eval]
        · intro v3 w8 hr hd
          have h0 : v3 0 = _ := hd 0 (by kernel_rfl)
          have c0 := (XX.out w8 (GG3.out _ hr.1) 4)
          refine yields_run (u := .int .i64 xx) (w' := w8) ?_ (Below.refl _ _) rfl
          unfold execOp
          simp [go_sem, Act.eval, Act.put, h0, c0]
        · intro v3 w8 hr hd
          have h1 : v3 1 = _ := hd 1 (by kernel_rfl)
          refine yields_call (f := 82) rfl (vs := #[.int .i64 xx]) (by simp [Act.eval, Act.put, h1]) rfl Tryz.func82 (by kernel_rfl) (by kernel_rfl) ((NX.out w8 (T0.out.below (HW.out _ (GG3.out _ hr.1)))).mono fun e w9 ⟨he, hb⟩ => ⟨_, he, hb, rfl⟩)
        · intro v3 w8 hr hd
          have h2 : v3 2 = _ := hd 2 (by kernel_rfl)
          have ha : ({ data := #[97, 61] } : ByteArray) ++ { data := (Lib.itoa xx).toArray } = ⟨([97, 61] ++ Lib.itoa xx).toArray⟩ := str_app9 [97, 61] (Lib.itoa xx)
          refine yields_run (u := sV ([97, 61] ++ Lib.itoa xx)) (w' := w8) ?_ (Below.refl _ _) rfl
          unfold execOp
          simp [go_sem, Act.eval, Act.put, h2, ha]
          omega
        · intro v3 w8 hr hd
          refine yields_run (u := .pointer (some ⟨xo, 5, none⟩)) (w' := w8) ?_ (Below.refl _ _) rfl
          unfold execOp
          simp [go_sem, Act.eval, Act.put]
        · intro v3 w8 hr hd
          have h4 : v3 4 = _ := hd 4 (by kernel_rfl)
          have c0 := (XX.out w8 (GG3.out _ hr.1) 5)
          refine yields_run (u := .int .i64 xy) (w' := w8) ?_ (Below.refl _ _) rfl
          unfold execOp
          simp [go_sem, Act.eval, Act.put, h4, c0]
        · intro v3 w8 hr hd
          have h5 : v3 5 = _ := hd 5 (by kernel_rfl)
          refine yields_call (f := 82) rfl (vs := #[.int .i64 xy]) (by simp [Act.eval, Act.put, h5]) rfl Tryz.func82 (by kernel_rfl) (by kernel_rfl) ((NY.out w8 (T0.out.below (HW.out _ (GG3.out _ hr.1)))).mono fun e w9 ⟨he, hb⟩ => ⟨_, he, hb, rfl⟩)
        · intro v3 w8 hr hd
          have h6 : v3 6 = _ := hd 6 (by kernel_rfl)
          have ha : ({ data := #[98, 61] } : ByteArray) ++ { data := (Lib.itoa xy).toArray } = ⟨([98, 61] ++ Lib.itoa xy).toArray⟩ := str_app9 [98, 61] (Lib.itoa xy)
          refine yields_run (u := sV ([98, 61] ++ Lib.itoa xy)) (w' := w8) ?_ (Below.refl _ _) rfl
          unfold execOp
          simp [go_sem, Act.eval, Act.put, h6, ha]
          omega
        · intro v3 w8 hr hd
          have h3 : v3 3 = _ := hd 3 (by kernel_rfl)
          have h7 : v3 7 = _ := hd 7 (by kernel_rfl)
          refine yields_run (u := .slice (some ⟨w8.heap.size, 0, none⟩) (([[97, 61] ++ Lib.itoa xx, [98, 61] ++ Lib.itoa xy] : List Bs)).length (([[97, 61] ++ Lib.itoa xx, [98, 61] ++ Lib.itoa xy] : List Bs)).length) (w' := w8.alloc (.cells ((([[97, 61] ++ Lib.itoa xx, [98, 61] ++ Lib.itoa xy] : List Bs)).map sV).toArray 9)) ?_ (fresh1 w8 _) ⟨w8.heap.size, rfl, hr.2, .inl (Whole.fresh w8 _ _)⟩
          unfold execOp
          simp [go_sem, Act.eval, Act.put, h3, h7, sV]
        · intro v3 w8 hr hd
          refine yields_run (u := v3 8) (w' := w8) ?_ (Below.refl _ _) rfl
          unfold execOp
          simp [go_sem, Act.eval, Act.put]
        · intro v3 w8 hr hv
          obtain ⟨gz, hz, hyl, hw⟩ : LoneS w7.heap.size ([[97, 61] ++ Lib.itoa xx, [98, 61] ++ Lib.itoa xy] : List Bs) (fun _ => False) (v3 8) w8 := hv 8 (by decide)
          have hw := hw.resolve_right (fun k => k)
          have h9 : v3 9 = v3 8 := hv 9 (by decide)
          have hR8 := Lib.hid (GG3.out _ hr.1)
          have WY8 := Lib.hid (WY.out.below hr.1 WY.out.inside)
          rw [hfin, h9, hz]
          clear hfin hv hr hz h9
          have WZ := Lib.hid hw
          clear hw
          have k2 := KK.out w8 hR8.out 2
          obtain ⟨i0, hi, hz0, hz1, hz2⟩ := infoS_parts
          have OY := Lib.hid (ownS_whole (base := w.heap.size) (by have := HY.out; have := B3.out.size; omega) (by simp) WY8.out)
          have hby := WY8.out.inside
          have B8 := Lib.hid (HW.out _ hR8.out)
          have hB8 := B8.out.size
          have hyw : w.heap.size ≤ gy := by have := HY.out; have := B3.out.size; omega
          have OYA : Hid (∀ j, (Value.slice (some ⟨gy, 0, none⟩) 5 5).ownBlock = some j → w.heap.size ≤ j) := Lib.hid fun j e => by rw [show gy = j by simpa [Value.ownBlock] using e] at hyw; exact hyw
          have hm2 : mk = 0 ∨ mk = 1 ∨ mk = 2 := by omega
          rcases hm2 with rfl | rfl | rfl
          · go_wp2_with fail
            go_ret
            exact ⟨_, _, rfl, OY.out, B8.out⟩
          · go_wp2_with (at_builtin; refine wpList_append_own _ rfl _ _ 126 rfl w.heap.size 9 i0 (.string ByteArray.empty) 1 16 Tryz.underlying126 hi hz0 hz1 hz2 rfl (by decide) _ _ _ rfl OY.out ⟨gz, 0, none⟩ 1 2 (([[97, 61] ++ Lib.itoa xx] : List Bs).map sV) rfl rfl (fun j u hj => whole_cells WZ.out j u (by rcases j with _ | _ | j <;> simp at hj ⊢ <;> exact hj)) (by intro v hv; simp at hv; rcases hv with rfl <;> rfl) (by simp [maxLen]) (by simp) hB8 ?_; intro v' w9 hown' hgrow _; obtain ⟨g', cap', rfl⟩ := OwnG.succ hown'; have B9 := Lib.hid (B8.out.grown hgrow hB8 (fun j e => OYA.out j e)); have OW9 := Lib.hid (show OwnS w9 w.heap.size (.slice (some ⟨g', 0, none⟩) (([[111, 112], xn, WBK, IWL, [97, 116, 61] ++ y.n] : List Bs) ++ [[97, 61] ++ Lib.itoa xx]).length cap') (([[111, 112], xn, WBK, IWL, [97, 116, 61] ++ y.n] : List Bs) ++ [[97, 61] ++ Lib.itoa xx]) by simpa [OwnS] using hown'); clear hown' hgrow)
            go_ret
            exact ⟨_, _, rfl, OW9.out, B9.out⟩
          · go_wp2_with (at_builtin; refine wpList_append_own _ rfl _ _ 126 rfl w.heap.size 9 i0 (.string ByteArray.empty) 1 16 Tryz.underlying126 hi hz0 hz1 hz2 rfl (by decide) _ _ _ rfl OY.out ⟨gz, 0, none⟩ 2 2 (([[97, 61] ++ Lib.itoa xx, [98, 61] ++ Lib.itoa xy] : List Bs).map sV) rfl rfl (fun j u hj => whole_cells WZ.out j u (by rcases j with _ | _ | j <;> simp at hj ⊢ <;> exact hj)) (by intro v hv; simp at hv; rcases hv with rfl | rfl <;> rfl) (by simp [maxLen]) (by simp) hB8 ?_; intro v' w9 hown' hgrow _; obtain ⟨g', cap', rfl⟩ := OwnG.succ hown'; have B9 := Lib.hid (B8.out.grown hgrow hB8 (fun j e => OYA.out j e)); have OW9 := Lib.hid (show OwnS w9 w.heap.size (.slice (some ⟨g', 0, none⟩) (([[111, 112], xn, WBK, IWL, [97, 116, 61] ++ y.n] : List Bs) ++ [[97, 61] ++ Lib.itoa xx, [98, 61] ++ Lib.itoa xy]).length cap') (([[111, 112], xn, WBK, IWL, [97, 116, 61] ++ y.n] : List Bs) ++ [[97, 61] ++ Lib.itoa xx, [98, 61] ++ Lib.itoa xy]) by simpa [OwnS] using hown'); clear hown' hgrow)
            go_ret
            exact ⟨_, _, rfl, OW9.out, B9.out⟩
end Go.Proofs.YtpblpjopinllcaaGreatDoor.graph
