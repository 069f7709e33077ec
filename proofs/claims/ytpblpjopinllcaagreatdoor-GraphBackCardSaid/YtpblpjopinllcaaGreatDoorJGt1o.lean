/-
  graph.opWords (by gen_gow.py).
  graph.Text (by gen_gtx.py).
-/
import Derived.Test.YtpblpjopinllcaaGreatDoorJGt1
import Derived.Test.YtpblpjopinllcaaGreatDoorJGl
import Derived.Test.YtpblpjopinllcaaGreatDoorJOg
import Derived.Deep.CutRange
namespace Go.Proofs.YtpblpjopinllcaaGreatDoor.graph
open Go.ChangeShapes Go.WideShapes Go.ChangeAt Go.RowKit Go.Shelf
open Go.Proofs.YtpblpjopinllcaaGreatDoor.opened Go.Proofs.YtpblpjopinllcaaGreatDoor.block Go.Proofs.YtpblpjopinllcaaGreatDoor.words Go.Proofs.YtpblpjopinllcaaGreatDoor.region
theorem kRow_is (k : Nat) (h1 : 1 ≤ k) (h2 : k ≤ 14) : ∃ a1 a3 a4 a5 a6 : Int, kRow k = [sV (wordB k), .int .i64 a1, .int .i64 (moreK k), .int .i64 a3, .int .i64 a4, .int .i64 a5, .int .i64 a6] := by
  match k, h1, h2 with
  | 1, _, _ => exact ⟨_, _, _, _, _, rfl⟩
  | 2, _, _ => exact ⟨_, _, _, _, _, rfl⟩
  | 3, _, _ => exact ⟨_, _, _, _, _, rfl⟩
  | 4, _, _ => exact ⟨_, _, _, _, _, rfl⟩
  | 5, _, _ => exact ⟨_, _, _, _, _, rfl⟩
  | 6, _, _ => exact ⟨_, _, _, _, _, rfl⟩
  | 7, _, _ => exact ⟨_, _, _, _, _, rfl⟩
  | 8, _, _ => exact ⟨_, _, _, _, _, rfl⟩
  | 9, _, _ => exact ⟨_, _, _, _, _, rfl⟩
  | 10, _, _ => exact ⟨_, _, _, _, _, rfl⟩
  | 11, _, _ => exact ⟨_, _, _, _, _, rfl⟩
  | 12, _, _ => exact ⟨_, _, _, _, _, rfl⟩
  | 13, _, _ => exact ⟨_, _, _, _, _, rfl⟩
  | 14, _, _ => exact ⟨_, _, _, _, _, rfl⟩
  | k + 15, _, h => omega
theorem more_le (k : Int) : moreK k ≤ 2 := by
  unfold moreK
  split
  · exact Nat.le_refl _
  · split
    · exact Nat.le_succ _
    · exact Nat.zero_le _
theorem oqW_len (g : Gr) (x : Oq) : (oqWords g x).length ≤ 1000 := by
  unfold oqWords
  rw [List.length_append, List.length_take]
  simp
  omega
theorem ownS_whole {w : World} {base gy : Nat} (hb : base ≤ gy) {N : List Bs} (hl : N.length ≤ 1000) (hW : Whole w gy 9 (N.map sV).toArray) : OwnS w base (.slice (some ⟨gy, 0, none⟩) N.length N.length) N :=
  ⟨by simp, .inr ⟨gy, N.length, _, rfl, hb, hW, Nat.le_refl _, by unfold maxLen; omega, by simp, by simp [List.take_of_length_le]⟩⟩
set_option maxRecDepth 100000 in
set_option maxHeartbeats 4000000 in
theorem opWords_any (v : Gv) (g : Gr) (x : Oq) (FL : ∀ y ∈ g.l, y.n.length ≤ 100000) (FC : ∀ y ∈ g.c, y.n.length ≤ 100000) (IO : I64 x.k ∧ I64 x.l ∧ I64 x.a ∧ I64 x.x ∧ I64 x.y) (ho : opE g x = 0) (w : World) (h : Lies4 w v g) (K : KT w) (T10 : Tab10 w) :
    Calls Tryz.prog 84 #[gV v g, .agg #[sV x.n, .int .i64 x.k, .int .i64 x.l, .int .i64 x.a, .int .i64 x.x, .int .i64 x.y]] w fun e w' => ∃ (D : Option Addr) (c : Nat), e = .returned (.slice D (oqWords g x).length c) ∧ OwnS w' w.heap.size (.slice D (oqWords g x).length c) (oqWords g x) ∧ Below w.heap.size w w' := by
  obtain ⟨⟨p1, p2⟩, ⟨l0, l1⟩, ⟨a0, a1'⟩, -, -⟩ := opE_parts ho
  have IW := inWord_any v g FL x.l l0 l1
  obtain ⟨va, vb, vd, ve, vi, vj, vk, vm⟩ := v
  obtain ⟨xn, xk, xl, xa, xx, xy⟩ := x
  dsimp only at p1 p2 l0 l1 a0 a1' IO IW ⊢
  unfold gV at IW ⊢
  dsimp only at IW ⊢
  obtain ⟨k, rfl⟩ : ∃ k : Nat, xk = k := ⟨xk.toNat, by omega⟩
  obtain ⟨m, rfl⟩ : ∃ m : Nat, xa = m := ⟨xa.toNat, by omega⟩
  obtain ⟨-, -, -, ⟨x0, x1⟩, y0, y1⟩ := IO
  have NX := Lib.hid (fun w (ht : Tab10 w) => number9_any xx x0 x1 w ht)
  have NY := Lib.hid (fun w (ht : Tab10 w) => number9_any xy y0 y1 w ht)
  have LX := Lib.itoa_length_le xx x0 x1
  have LY := Lib.itoa_length_le xy y0 y1
  clear x0 x1 y0 y1
  have hm : m < g.c.length := by omega
  obtain ⟨y, hy⟩ : ∃ y, g.c[m]? = some y := ⟨g.c[m], List.getElem?_eq_getElem hm⟩
  have hyl := FC y (List.mem_of_getElem? hy)
  have hnc : nameC g m = y.n := by simp [nameC, hy]
  have hWd : oqWords g ⟨xn, k, xl, m, xx, xy⟩ = [[111, 112], xn, wordB k, inW g xl, [97, 116, 61] ++ y.n] ++ ([[97, 61] ++ Lib.itoa xx, [98, 61] ++ Lib.itoa xy].take (moreK k)) := by unfold oqWords; rw [← hnc]
  rw [hWd]
  obtain ⟨bc, oc, hA, hbc, hcy, -⟩ := at_cl h.c hy
  change va = _ at hA
  subst hA
  have hk15 : k < 15 := by omega
  obtain ⟨a1, a3, a4, a5, a6, hkr⟩ := kRow_is k (by omega) (by omega)
  have hmore : moreK k ≤ 2 := more_le k
  generalize inW g xl = IWL at IW hWd ⊢
  generalize wordB k = WBK at hkr ⊢
  generalize moreK k = mk at hkr hmore ⊢
  have H := Lib.hid h
  have T0 := Lib.hid T10
  have K0 := Lib.hid K
  replace IW := Lib.hid IW
  clear hnc hWd hy ho FL FC a0 a1' p1 l0 l1 h T10 K
  have c0 := (K0.out.c k hk15 0 (by decide)).trans (by rw [hkr])
  go_enter Tryz.func84, Tryz.ntmps84
  go_upto_region 1 with fail
  change Code.wp _ _ _ _ ((w.alloc (.cells #[.slice (some ⟨bc, oc, none⟩) g.c.length vi, .slice vb g.l.length vj, .slice vd g.o.length vk, .slice ve g.h.length vm] 27)).alloc (.cells #[sV xn, .int .i64 (k : Int), .int .i64 xl, .int .i64 (m : Int), .int .i64 xx, .int .i64 xy] 145))
  clear c0
  have b1 := fresh1 w (.cells #[.slice (some ⟨bc, oc, none⟩) g.c.length vi, .slice vb g.l.length vj, .slice vd g.o.length vk, .slice ve g.h.length vm] 27)
  have OG := Whole.fresh w 27 #[.slice (some ⟨bc, oc, none⟩) g.c.length vi, .slice vb g.l.length vj, .slice vd g.o.length vk, .slice ve g.h.length vm]
  have e1 : (w.alloc (.cells #[.slice (some ⟨bc, oc, none⟩) g.c.length vi, .slice vb g.l.length vj, .slice vd g.o.length vk, .slice ve g.h.length vm] 27)).heap.size = w.heap.size + 1 := by rw [size_alloc]
  generalize w.alloc (.cells #[.slice (some ⟨bc, oc, none⟩) g.c.length vi, .slice vb g.l.length vj, .slice vd g.o.length vk, .slice ve g.h.length vm] 27) = w1 at b1 OG e1 ⊢
  have b2 := fresh1 w1 (.cells #[sV xn, .int .i64 (k : Int), .int .i64 xl, .int .i64 (m : Int), .int .i64 xx, .int .i64 xy] 145)
  have OO := Whole.fresh w1 145 #[sV xn, .int .i64 (k : Int), .int .i64 xl, .int .i64 (m : Int), .int .i64 xx, .int .i64 xy]
  have OG2 := OG.below b2 OG.inside
  rw [e1] at OO
  generalize w1.alloc (.cells #[sV xn, .int .i64 (k : Int), .int .i64 xl, .int .i64 (m : Int), .int .i64 xx, .int .i64 xy] 145) = w2 at b2 OO OG2 ⊢
  have B2 := Lib.hid (b1.trans (b2.mono b1.size))
  clear b1 b2 OG e1
  obtain ⟨gg, hgg⟩ : ∃ gg, w.heap.size = gg := ⟨_, rfl⟩
  rw [hgg] at OG2 OO ⊢
  obtain ⟨xo, hxo⟩ : ∃ xo, gg + 1 = xo := ⟨_, rfl⟩
  rw [hxo] at OO ⊢
  clear hxo
  have hgw := Lib.hid hgg
  clear hgg
  replace OG2 := Lib.hid OG2
  replace OO := Lib.hid OO
  have xk1 := OO.out.read 1
  have KA := (K0.out.below B2.out).c k hk15
  rw [hkr] at KA
  have q0 := KA 0 (by decide)
  have q1 := KA 1 (by decide)
  have q2 := KA 2 (by decide)
  have q3 := KA 3 (by decide)
  have q4 := KA 4 (by decide)
  have q5 := KA 5 (by decide)
  have q6 := KA 6 (by decide)
  simp only [List.getElem?_cons_zero, List.getElem?_cons_succ, Nat.add_zero] at q0 q1 q2 q3 q4 q5 q6
  clear KA hkr
  go_upto_region 2 with fail
  change Code.wp _ _ _ _ (w2.alloc (.cells #[sV WBK, .int .i64 a1, .int .i64 (mk : Int), .int .i64 a3, .int .i64 a4, .int .i64 a5, .int .i64 a6] 235))
  clear xk1 q0 q1 q2 q3 q4 q5 q6
  have b3 := fresh1 w2 (.cells #[sV WBK, .int .i64 a1, .int .i64 (mk : Int), .int .i64 a3, .int .i64 a4, .int .i64 a5, .int .i64 a6] 235)
  have OK := Lib.hid (Whole.fresh w2 235 #[sV WBK, .int .i64 a1, .int .i64 (mk : Int), .int .i64 a3, .int .i64 a4, .int .i64 a5, .int .i64 a6])
  have OG3 := Lib.hid (OG2.out.below b3 OG2.out.inside)
  have OO3 := Lib.hid (OO.out.below b3 OO.out.inside)
  have B3 := Lib.hid (B2.out.trans (b3.mono B2.out.size))
  clear b3 OG2 OO B2
  generalize w2.alloc (.cells #[sV WBK, .int .i64 a1, .int .i64 (mk : Int), .int .i64 a3, .int .i64 a4, .int .i64 a5, .int .i64 a6] 235) = wx at OK OG3 OO3 B3 ⊢
  generalize w2.heap.size = kk at OK ⊢
  have GG : ∀ w7, Below wx.heap.size wx w7 → ∀ i, w7.cell? ⟨gg, i, none⟩ = #[.slice (some ⟨bc, oc, none⟩) g.c.length vi, .slice vb g.l.length vj, .slice vd g.o.length vk, .slice ve g.h.length vm][i]? := fun w7 h7 => (OG3.out.below h7 OG3.out.inside).read
  have XX : ∀ w7, Below wx.heap.size wx w7 → ∀ i, w7.cell? ⟨xo, i, none⟩ = #[sV xn, .int .i64 (k : Int), .int .i64 xl, .int .i64 (m : Int), .int .i64 xx, .int .i64 xy][i]? := fun w7 h7 => (OO3.out.below h7 OO3.out.inside).read
  have KK : ∀ w7, Below wx.heap.size wx w7 → ∀ i, w7.cell? ⟨kk, i, none⟩ = #[sV WBK, .int .i64 a1, .int .i64 (mk : Int), .int .i64 a3, .int .i64 a4, .int .i64 a5, .int .i64 a6][i]? := fun w7 h7 => (OK.out.below h7 OK.out.inside).read
  have HW : ∀ w7, Below wx.heap.size wx w7 → Below w.heap.size w w7 := fun w7 h7 => B3.out.trans (h7.mono B3.out.size)
  have EC : ∀ w7, Below wx.heap.size wx w7 → w7.cell? ⟨bc, oc + m * 2, none⟩ = some (sV y.n) := fun w7 h7 => ((HW w7 h7).cell (p := ⟨bc, oc + m * 2, none⟩) hbc).trans hcy
  replace GG := Lib.hid GG
  replace XX := Lib.hid XX
  replace KK := Lib.hid KK
  replace HW := Lib.hid HW
  replace EC := Lib.hid EC
  clear hcy hbc
  refine region_full 44 [] [] (fun _ => false) (fun w7 => Below wx.heap.size wx w7 ∧ wx.heap.size ≤ w7.heap.size) ?hR ?r0 [pdOne 0 (Is (.pointer (some ⟨xo, 0, none⟩))), pdOne 1 (Is (sV xn)), pdOne 2 (Is (.pointer (some ⟨kk, 0, none⟩))), pdOne 3 (Is (sV WBK)), pdOne 4 (Is (.agg #[.slice (some ⟨bc, oc, none⟩) g.c.length vi, .slice vb g.l.length vj, .slice vd g.o.length vk, .slice ve g.h.length vm])), pdOne 5 (Is (.pointer (some ⟨xo, 2, none⟩))), pdOne 6 (Is (.int .i64 xl)), pdOne 7 (Is (sV IWL)), pdOne 8 (Is (.pointer (some ⟨gg, 0, none⟩))), pdOne 9 (Is (.slice (some ⟨bc, oc, none⟩) g.c.length vi)), pdOne 10 (Is (.pointer (some ⟨xo, 3, none⟩))), pdOne 11 (Is (.int .i64 (m : Int))), pdOne 12 (Is (.pointer (some ⟨bc, oc + m * 2, none⟩))), pdOne 13 (Is (.pointer (some ⟨bc, oc + m * 2, none⟩))), pdOne 14 (Is (sV y.n)), pdOne 15 (Is (sV ([97, 116, 61] ++ y.n))), pdOne 16 (LoneS wx.heap.size ([[111, 112], xn, WBK, IWL, [97, 116, 61] ++ y.n] : List Bs) (fun w => False)), pdTwo 16 17 (fun u y w => y = u)] (fun _ _ => True) (by kernel_rfl) rfl (by kernel_rfl) (by kernel_rfl) (by kernel_rfl) (by kernel_rfl) ?keep ?hO ?h0 ?tell
  case hR => exact fun wa wb hb ⟨h1, h2⟩ => ⟨h1.trans (hb.mono h1.size), Nat.le_trans h2 hb.size⟩
  case r0 => exact ⟨Below.refl _ _, Nat.le_refl _⟩
  case keep => exact ⟨keep_one (keeps_is _), keep_one (keeps_is _), keep_one (keeps_is _), keep_one (keeps_is _), keep_one (keeps_is _), keep_one (keeps_is _), keep_one (keeps_is _), keep_one (keeps_is _), keep_one (keeps_is _), keep_one (keeps_is _), keep_one (keeps_is _), keep_one (keeps_is _), keep_one (keeps_is _), keep_one (keeps_is _), keep_one (keeps_is _), keep_one (keeps_is _), keep_one (fun _ _ _ hb h => h.imp fun gx h => ⟨h.1, h.2.1, h.2.2.imp (fun k => k.below hb k.inside) (fun k => k)⟩), keep_two (fun _ _ _ _ _ h => h), trivial⟩
  case hO => exact fun _ _ _ _ h => h
  case h0 => exact fun _ _ => trivial
  case tell =>
    intro fin hfin
    simp [lexPut, Act.put] at hfin
    simp only [TellF]
    refine ⟨⟨?_, ?_, ?_, ?_, ?_, ?_, ?_, ?_, ?_, ?_, ?_, ?_, ?_, ?_, ?_, ?_, ?_, ?_, trivial⟩, ?_⟩
    · intro v2 w7 hr hd
      refine yields_run (u := .pointer (some ⟨xo, 0, none⟩)) (w' := w7) ?_ (Below.refl _ _) rfl
      unfold execOp
      simp [go_sem, Act.eval]
    · intro v2 w7 hr hd
      have h0 : v2 0 = _ := hd 0 (by kernel_rfl)
      have c0 := (XX.out w7 hr.1 0)
      refine yields_run (u := sV xn) (w' := w7) ?_ (Below.refl _ _) rfl
      unfold execOp
      simp [go_sem, Act.eval, Act.put, h0, c0]
    · intro v2 w7 hr hd
      refine yields_run (u := .pointer (some ⟨kk, 0, none⟩)) (w' := w7) ?_ (Below.refl _ _) rfl
      unfold execOp
      simp [go_sem, Act.eval, Act.put]
    · intro v2 w7 hr hd
      have h2 : v2 2 = _ := hd 2 (by kernel_rfl)
      have c0 := (KK.out w7 hr.1 0)
      refine yields_run (u := sV WBK) (w' := w7) ?_ (Below.refl _ _) rfl
      unfold execOp
      simp [go_sem, Act.eval, Act.put, h2, c0]
    · intro v2 w7 hr hd
      have c0 := (GG.out w7 hr.1 0)
      have c1 := (GG.out w7 hr.1 1)
      have c2 := (GG.out w7 hr.1 2)
      have c3 := (GG.out w7 hr.1 3)
      refine yields_run (u := .agg #[.slice (some ⟨bc, oc, none⟩) g.c.length vi, .slice vb g.l.length vj, .slice vd g.o.length vk, .slice ve g.h.length vm]) (w' := w7) ?_ (Below.refl _ _) rfl
      unfold execOp
      simp [go_sem, Act.eval, Act.put, c0, c1, c2, c3]
    · intro v2 w7 hr hd
      refine yields_run (u := .pointer (some ⟨xo, 2, none⟩)) (w' := w7) ?_ (Below.refl _ _) rfl
      unfold execOp
      simp [go_sem, Act.eval, Act.put]
    · intro v2 w7 hr hd
      have h5 : v2 5 = _ := hd 5 (by kernel_rfl)
      have c0 := (XX.out w7 hr.1 2)
      refine yields_run (u := .int .i64 xl) (w' := w7) ?_ (Below.refl _ _) rfl
      unfold execOp
      simp [go_sem, Act.eval, Act.put, h5, c0]
    · intro v2 w7 hr hd
      have h4 : v2 4 = _ := hd 4 (by kernel_rfl)
      have h6 : v2 6 = _ := hd 6 (by kernel_rfl)
      refine yields_call (f := 83) rfl (vs := #[.agg #[.slice (some ⟨bc, oc, none⟩) g.c.length vi, .slice vb g.l.length vj, .slice vd g.o.length vk, .slice ve g.h.length vm], .int .i64 xl]) (by simp [Act.eval, Act.put, h4, h6]) rfl Tryz.func83 (by kernel_rfl) (by kernel_rfl) ((IW.out w7 (H.out.below (HW.out w7 hr.1))).mono fun e w8 ⟨he, hb⟩ => ⟨_, he, hb, rfl⟩)
    · intro v2 w7 hr hd
      refine yields_run (u := .pointer (some ⟨gg, 0, none⟩)) (w' := w7) ?_ (Below.refl _ _) rfl
      unfold execOp
      simp [go_sem, Act.eval, Act.put]
    · intro v2 w7 hr hd
      have h8 : v2 8 = _ := hd 8 (by kernel_rfl)
      have c0 := (GG.out w7 hr.1 0)
      refine yields_run (u := .slice (some ⟨bc, oc, none⟩) g.c.length vi) (w' := w7) ?_ (Below.refl _ _) rfl
      unfold execOp
      simp [go_sem, Act.eval, Act.put, h8, c0]
    · intro v2 w7 hr hd
      refine yields_run (u := .pointer (some ⟨xo, 3, none⟩)) (w' := w7) ?_ (Below.refl _ _) rfl
      unfold execOp
      simp [go_sem, Act.eval, Act.put]
    · intro v2 w7 hr hd
      have h10 : v2 10 = _ := hd 10 (by kernel_rfl)
      have c0 := (XX.out w7 hr.1 3)
      refine yields_run (u := .int .i64 (m : Int)) (w' := w7) ?_ (Below.refl _ _) rfl
      unfold execOp
      simp [go_sem, Act.eval, Act.put, h10, c0]
    · intro v2 w7 hr hd
      have h9 : v2 9 = _ := hd 9 (by kernel_rfl)
      have h11 : v2 11 = _ := hd 11 (by kernel_rfl)
      exact yields_index (b := bc) (off := oc) (n := g.c.length) (c := vi) (i := m) (m := 2) rfl (by simp [Act.eval, Act.put, h9, h11]) (by simp [Act.eval, Act.put, h9, h11]) hm Tryz.underlying22 (by intro w; simp [Tryz.sizeOf143])
    · intro v2 w7 hr hd
      have h12 : v2 12 = _ := hd 12 (by kernel_rfl)
      refine yields_run (u := .pointer (some ⟨bc, oc + m * 2, none⟩)) (w' := w7) ?_ (Below.refl _ _) rfl
      unfold execOp
      simp [go_sem, Act.eval, Act.put, h12]
    · intro v2 w7 hr hd
      have h13 : v2 13 = _ := hd 13 (by kernel_rfl)
      have c0 := (EC.out w7 hr.1)
      refine yields_run (u := sV y.n) (w' := w7) ?_ (Below.refl _ _) rfl
      unfold execOp
      simp [go_sem, Act.eval, Act.put, h13, c0]
    · intro v2 w7 hr hd
      have h14 : v2 14 = _ := hd 14 (by kernel_rfl)
      have ha : ({ data := #[97, 116, 61] } : ByteArray) ++ { data := (y.n).toArray } = ⟨([97, 116, 61] ++ y.n).toArray⟩ := str_app9 [97, 116, 61] (y.n)
      refine yields_run (u := sV ([97, 116, 61] ++ y.n)) (w' := w7) ?_ (Below.refl _ _) rfl
      unfold execOp
      simp [go_sem, Act.eval, Act.put, h14, ha]
      omega
    · intro v2 w7 hr hd
      have h1 : v2 1 = _ := hd 1 (by kernel_rfl)
      have h3 : v2 3 = _ := hd 3 (by kernel_rfl)
      have h7 : v2 7 = _ := hd 7 (by kernel_rfl)
      have h15 : v2 15 = _ := hd 15 (by kernel_rfl)
      refine yields_run (u := .slice (some ⟨w7.heap.size, 0, none⟩) (([[111, 112], xn, WBK, IWL, [97, 116, 61] ++ y.n] : List Bs)).length (([[111, 112], xn, WBK, IWL, [97, 116, 61] ++ y.n] : List Bs)).length) (w' := w7.alloc (.cells ((([[111, 112], xn, WBK, IWL, [97, 116, 61] ++ y.n] : List Bs)).map sV).toArray 9)) ?_ (fresh1 w7 _) ⟨w7.heap.size, rfl, hr.2, .inl (Whole.fresh w7 _ _)⟩
      unfold execOp
      simp [go_sem, Act.eval, Act.put, h1, h3, h7, h15, sV]
    · intro v2 w7 hr hd
      refine yields_run (u := v2 16) (w' := w7) ?_ (Below.refl _ _) rfl
      unfold execOp
      simp [go_sem, Act.eval, Act.put]
    · intro v2 w7 hr hv
      obtain ⟨gy, hz, hyl, hw⟩ : LoneS wx.heap.size ([[111, 112], xn, WBK, IWL, [97, 116, 61] ++ y.n] : List Bs) (fun _ => False) (v2 16) w7 := hv 16 (by decide)
      have hw := hw.resolve_right (fun k => k)
      have h17 : v2 17 = v2 16 := hv 17 (by decide)
      have hR := Lib.hid hr.1
      have hS := Lib.hid hr.2
      rw [hfin, h17, hz]
      clear hfin hv hr hz h17
      have WY := Lib.hid hw
      have HY := Lib.hid hyl
      clear hw hyl
      go_upto_region 3 with fail
      have GG3 : ∀ w8, Below w7.heap.size w7 w8 → Below wx.heap.size wx w8 := fun w8 h8 => hR.out.trans (h8.mono hR.out.size)
      replace GG3 := Lib.hid GG3
      refine region_full 44 [] [] (fun _ => false) (fun w8 => Below w7.heap.size w7 w8 ∧ w7.heap.size ≤ w8.heap.size) ?hR ?r0 [pdOne 0 (Is (.pointer (some ⟨xo, 4, none⟩))), pdOne 1 (Is (.int .i64 xx)), pdOne 2 (Is (sV (Lib.itoa xx))), pdOne 3 (Is (sV ([97, 61] ++ Lib.itoa xx))), pdOne 4 (Is (.pointer (some ⟨xo, 5, none⟩))), pdOne 5 (Is (.int .i64 xy)), pdOne 6 (Is (sV (Lib.itoa xy))), pdOne 7 (Is (sV ([98, 61] ++ Lib.itoa xy))), pdOne 8 (LoneS w7.heap.size ([[97, 61] ++ Lib.itoa xx, [98, 61] ++ Lib.itoa xy] : List Bs) (fun w => False)), pdTwo 8 9 (fun u y w => y = u)] (fun _ _ => True) (by kernel_rfl) rfl (by kernel_rfl) (by kernel_rfl) (by kernel_rfl) (by kernel_rfl) ?keep ?hO ?h0 ?tell
      case hR => exact fun wa wb hb ⟨h1, h2⟩ => ⟨h1.trans (hb.mono h1.size), Nat.le_trans h2 hb.size⟩
      case r0 => exact ⟨Below.refl _ _, Nat.le_refl _⟩
      case keep => exact ⟨keep_one (keeps_is _), keep_one (keeps_is _), keep_one (keeps_is _), keep_one (keeps_is _), keep_one (keeps_is _), keep_one (keeps_is _), keep_one (keeps_is _), keep_one (keeps_is _), keep_one (fun _ _ _ hb h => h.imp fun gx h => ⟨h.1, h.2.1, h.2.2.imp (fun k => k.below hb k.inside) (fun k => k)⟩), keep_two (fun _ _ _ _ _ h => h), trivial⟩
      case hO => exact fun _ _ _ _ h => h
      case h0 => exact fun _ _ => trivial
      case tell =>
        intro fin hfin
        simp [lexPut, Act.put] at hfin
        simp only [TellF]
        refine ⟨⟨?_, ?_, ?_, ?_, ?_, ?_, ?_, ?_, ?_, ?_, trivial⟩, ?_⟩
        · intro v3 w8 hr hd
          refine yields_run (u := .pointer (some ⟨xo, 4, none⟩)) (w' := w8) ?_ (Below.refl _ _) rfl
          unfold execOp
          simp [go_sem, Act.eval]
        · intro v3 w8 hr hd
          have h0 : v3 0 = _ := hd 0 (by kernel_rfl)
          have c0 := (XX.out w8 (GG3.out _ hr.1) 4)
          refine yields_run (u := .int .i64 xx) (w' := w8) ?_ (Below.refl _ _) rfl
          unfold execOp
          simp [go_sem, Act.eval, Act.put, h0, c0]
        · intro v3 w8 hr hd
          have h1 : v3 1 = _ := hd 1 (by kernel_rfl)
          refine yields_call (f := 82) rfl (vs := #[.int .i64 xx]) (by simp [Act.eval, Act.put, h1]) rfl Tryz.func82 (by kernel_rfl) (by kernel_rfl) ((NX.out w8 (T0.out.below (HW.out _ (GG3.out _ hr.1)))).mono fun e w9 ⟨he, hb⟩ => ⟨_, he, hb, rfl⟩)
        · intro v3 w8 hr hd
          have h2 : v3 2 = _ := hd 2 (by kernel_rfl)
          have ha : ({ data := #[97, 61] } : ByteArray) ++ { data := (Lib.itoa xx).toArray } = ⟨([97, 61] ++ Lib.itoa xx).toArray⟩ := str_app9 [97, 61] (Lib.itoa xx)
          refine yields_run (u := sV ([97, 61] ++ Lib.itoa xx)) (w' := w8) ?_ (Below.refl _ _) rfl
          unfold execOp
          simp [go_sem, Act.eval, Act.put, h2, ha]
          omega
        · intro v3 w8 hr hd
          refine yields_run (u := .pointer (some ⟨xo, 5, none⟩)) (w' := w8) ?_ (Below.refl _ _) rfl
          unfold execOp
          simp [go_sem, Act.eval, Act.put]
        · intro v3 w8 hr hd
          have h4 : v3 4 = _ := hd 4 (by kernel_rfl)
          have c0 := (XX.out w8 (GG3.out _ hr.1) 5)
          refine yields_run (u := .int .i64 xy) (w' := w8) ?_ (Below.refl _ _) rfl
          unfold execOp
          simp [go_sem, Act.eval, Act.put, h4, c0]
        · intro v3 w8 hr hd
          have h5 : v3 5 = _ := hd 5 (by kernel_rfl)
          refine yields_call (f := 82) rfl (vs := #[.int .i64 xy]) (by simp [Act.eval, Act.put, h5]) rfl Tryz.func82 (by kernel_rfl) (by kernel_rfl) ((NY.out w8 (T0.out.below (HW.out _ (GG3.out _ hr.1)))).mono fun e w9 ⟨he, hb⟩ => ⟨_, he, hb, rfl⟩)
        · intro v3 w8 hr hd
          have h6 : v3 6 = _ := hd 6 (by kernel_rfl)
          have ha : ({ data := #[98, 61] } : ByteArray) ++ { data := (Lib.itoa xy).toArray } = ⟨([98, 61] ++ Lib.itoa xy).toArray⟩ := str_app9 [98, 61] (Lib.itoa xy)
          refine yields_run (u := sV ([98, 61] ++ Lib.itoa xy)) (w' := w8) ?_ (Below.refl _ _) rfl
          unfold execOp
          simp [go_sem, Act.eval, Act.put, h6, ha]
          omega
        · intro v3 w8 hr hd
          have h3 : v3 3 = _ := hd 3 (by kernel_rfl)
          have h7 : v3 7 = _ := hd 7 (by kernel_rfl)
          refine yields_run (u := .slice (some ⟨w8.heap.size, 0, none⟩) (([[97, 61] ++ Lib.itoa xx, [98, 61] ++ Lib.itoa xy] : List Bs)).length (([[97, 61] ++ Lib.itoa xx, [98, 61] ++ Lib.itoa xy] : List Bs)).length) (w' := w8.alloc (.cells ((([[97, 61] ++ Lib.itoa xx, [98, 61] ++ Lib.itoa xy] : List Bs)).map sV).toArray 9)) ?_ (fresh1 w8 _) ⟨w8.heap.size, rfl, hr.2, .inl (Whole.fresh w8 _ _)⟩
          unfold execOp
          simp [go_sem, Act.eval, Act.put, h3, h7, sV]
        · intro v3 w8 hr hd
          refine yields_run (u := v3 8) (w' := w8) ?_ (Below.refl _ _) rfl
          unfold execOp
          simp [go_sem, Act.eval, Act.put]
        · intro v3 w8 hr hv
          obtain ⟨gz, hz, hyl, hw⟩ : LoneS w7.heap.size ([[97, 61] ++ Lib.itoa xx, [98, 61] ++ Lib.itoa xy] : List Bs) (fun _ => False) (v3 8) w8 := hv 8 (by decide)
          have hw := hw.resolve_right (fun k => k)
          have h9 : v3 9 = v3 8 := hv 9 (by decide)
          have hR8 := Lib.hid (GG3.out _ hr.1)
          have WY8 := Lib.hid (WY.out.below hr.1 WY.out.inside)
          rw [hfin, h9, hz]
          clear hfin hv hr hz h9
          have WZ := Lib.hid hw
          clear hw
          have k2 := KK.out w8 hR8.out 2
          obtain ⟨i0, hi, hz0, hz1, hz2⟩ := infoS_parts
          have OY := Lib.hid (ownS_whole (base := w.heap.size) (by have := HY.out; have := B3.out.size; omega) (by simp) WY8.out)
          have hby := WY8.out.inside
          have B8 := Lib.hid (HW.out _ hR8.out)
          have hB8 := B8.out.size
          have hyw : w.heap.size ≤ gy := by have := HY.out; have := B3.out.size; omega
          have OYA : Hid (∀ j, (Value.slice (some ⟨gy, 0, none⟩) 5 5).ownBlock = some j → w.heap.size ≤ j) := Lib.hid fun j e => by rw [show gy = j by simpa [Value.ownBlock] using e] at hyw; exact hyw
          have hm2 : mk = 0 ∨ mk = 1 ∨ mk = 2 := by omega
          rcases hm2 with rfl | rfl | rfl
          · go_wp2_with fail
            go_ret
            exact ⟨_, _, rfl, OY.out, B8.out⟩
          · go_wp2_with (at_builtin; refine wpList_append_own _ rfl _ _ 126 rfl w.heap.size 9 i0 (.string ByteArray.empty) 1 16 Tryz.underlying126 hi hz0 hz1 hz2 rfl (by decide) _ _ _ rfl OY.out ⟨gz, 0, none⟩ 1 2 (([[97, 61] ++ Lib.itoa xx] : List Bs).map sV) rfl rfl (fun j u hj => whole_cells WZ.out j u (by rcases j with _ | _ | j <;> simp at hj ⊢ <;> exact hj)) (by intro v hv; simp at hv; rcases hv with rfl <;> rfl) (by simp [maxLen]) (by simp) hB8 ?_; intro v' w9 hown' hgrow _; obtain ⟨g', cap', rfl⟩ := OwnG.succ hown'; have B9 := Lib.hid (B8.out.grown hgrow hB8 (fun j e => OYA.out j e)); have OW9 := Lib.hid (show OwnS w9 w.heap.size (.slice (some ⟨g', 0, none⟩) (([[111, 112], xn, WBK, IWL, [97, 116, 61] ++ y.n] : List Bs) ++ [[97, 61] ++ Lib.itoa xx]).length cap') (([[111, 112], xn, WBK, IWL, [97, 116, 61] ++ y.n] : List Bs) ++ [[97, 61] ++ Lib.itoa xx]) by simpa [OwnS] using hown'); clear hown' hgrow)
            go_ret
            exact ⟨_, _, rfl, OW9.out, B9.out⟩
          · go_wp2_with (at_builtin; refine wpList_append_own _ rfl _ _ 126 rfl w.heap.size 9 i0 (.string ByteArray.empty) 1 16 Tryz.underlying126 hi hz0 hz1 hz2 rfl (by decide) _ _ _ rfl OY.out ⟨gz, 0, none⟩ 2 2 (([[97, 61] ++ Lib.itoa xx, [98, 61] ++ Lib.itoa xy] : List Bs).map sV) rfl rfl (fun j u hj => whole_cells WZ.out j u (by rcases j with _ | _ | j <;> simp at hj ⊢ <;> exact hj)) (by intro v hv; simp at hv; rcases hv with rfl | rfl <;> rfl) (by simp [maxLen]) (by simp) hB8 ?_; intro v' w9 hown' hgrow _; obtain ⟨g', cap', rfl⟩ := OwnG.succ hown'; have B9 := Lib.hid (B8.out.grown hgrow hB8 (fun j e => OYA.out j e)); have OW9 := Lib.hid (show OwnS w9 w.heap.size (.slice (some ⟨g', 0, none⟩) (([[111, 112], xn, WBK, IWL, [97, 116, 61] ++ y.n] : List Bs) ++ [[97, 61] ++ Lib.itoa xx, [98, 61] ++ Lib.itoa xy]).length cap') (([[111, 112], xn, WBK, IWL, [97, 116, 61] ++ y.n] : List Bs) ++ [[97, 61] ++ Lib.itoa xx, [98, 61] ++ Lib.itoa xy]) by simpa [OwnS] using hown'); clear hown' hgrow)
            go_ret
            exact ⟨_, _, rfl, OW9.out, B9.out⟩
end Go.Proofs.YtpblpjopinllcaaGreatDoor.graph
namespace Go.Proofs.YtpblpjopinllcaaGreatDoor.graph
open Go.ChangeShapes Go.WideShapes Go.ChangeAt Go.RowKit Go.Shelf
open Go.Proofs.YtpblpjopinllcaaGreatDoor.opened Go.Proofs.YtpblpjopinllcaaGreatDoor.block Go.Proofs.YtpblpjopinllcaaGreatDoor.words Go.Proofs.YtpblpjopinllcaaGreatDoor.region
def textV (g : Gr) : Bs := if checkE g = 0 then textG g else []
theorem BL.made (w : World) : BL (w.alloc (.cells #[.pointer none, .slice none 0 0] 150)) w.heap.size w.heap.size [] :=
  ⟨.inl ⟨Nat.le_refl _, .slice none 0 0, Whole.fresh w _ _, World.ownsRow_nil _ _ _ _, by simp [Value.ownBlock]⟩, by simp⟩
theorem name_len {s : Bs} (h : nameB s = true) : s.length ≤ 12 := by
  unfold nameB at h
  simp at h
  exact h.1
theorem nameE_zero {M : List Bs} {s : Bs} (h : nameE M s = 0) : nameB s = true := by
  unfold nameE at h
  split at h
  · cases h
  · rename_i k; simpa using k
theorem cl_name {g : Gr} (h : checkE g = 0) {i : Nat} {x : Cl} (hx : g.c[i]? = some x) : x.n.length ≤ 12 := by
  have z := first_zero (check_parts h).2.1 i (List.getElem?_eq_some_iff.1 hx).1
  unfold clE at z
  rw [hx] at z
  dsimp only at z
  split at z
  · rename_i n0; exact absurd z n0
  · rename_i n0; exact name_len (nameE_zero (Classical.not_not.1 n0))
theorem upto_le {α : Type} {L : List α} {f : α → Bs} {m : Nat} (h : ∀ x ∈ L, (f x).length ≤ m) (i : Nat) : (upto L f i).length ≤ L.length * m := by
  unfold upto
  have : ∀ N : List α, (∀ x ∈ N, (f x).length ≤ m) → ((N.map f).flatten).length ≤ N.length * m := by
    intro N
    induction N with
    | nil => simp
    | cons y r ih =>
      intro hN
      have h1 := hN y (by simp)
      have h2 := ih (fun z hz => hN z (by simp [hz]))
      simp only [List.map_cons, List.flatten_cons, List.length_append, List.length_cons, Nat.add_mul, Nat.one_mul]
      omega
  refine Nat.le_trans (this _ (fun x hx => h x (List.mem_of_mem_take hx))) (Nat.mul_le_mul_right m ?_)
  rw [List.length_take]
  exact Nat.min_le_right _ _
theorem lo_name {g : Gr} (h : checkE g = 0) {x : Lo} (hx : x ∈ g.l) : x.n.length ≤ 12 := by
  obtain ⟨i, hi, e⟩ := List.getElem_of_mem hx
  have z := first_zero (check_parts h).2.2.1 i hi
  unfold loE at z
  rw [List.getElem?_eq_getElem hi, e] at z
  dsimp only at z
  split at z
  · rename_i n0; exact absurd z n0
  · rename_i n0; exact name_len (nameE_zero (Classical.not_not.1 n0))
theorem cl_name' {g : Gr} (h : checkE g = 0) {x : Cl} (hx : x ∈ g.c) : x.n.length ≤ 12 := by
  obtain ⟨i, hi, e⟩ := List.getElem_of_mem hx
  exact cl_name h (i := i) (by rw [List.getElem?_eq_getElem hi, e])
theorem oq_name {g : Gr} (h : checkE g = 0) {x : Oq} (hx : x ∈ g.o) : x.n.length ≤ 12 := by
  obtain ⟨i, hi, e⟩ := List.getElem_of_mem hx
  exact name_len (nameE_zero (oq_parts h (i := i) (by rw [List.getElem?_eq_getElem hi, e])).1)
theorem inW_len {g : Gr} (h : checkE g = 0) (k : Int) : (inW g k).length ≤ 15 := by
  unfold inW
  rw [List.length_append]
  split
  · simp
  · split
    · simp
    · rename_i x hx
      have := lo_name h (List.mem_of_getElem? hx)
      simp
      omega
theorem nameC_len {g : Gr} (h : checkE g = 0) (k : Int) : (nameC g k).length ≤ 12 := by
  unfold nameC
  split
  · simp
  · rename_i x hx; exact cl_name' h (List.mem_of_getElem? hx)
theorem nameO_len {g : Gr} (h : checkE g = 0) (k : Int) : (nameO g k).length ≤ 12 := by
  unfold nameO
  split
  · simp
  · rename_i x hx; exact oq_name h (List.mem_of_getElem? hx)
theorem wordB_len (k : Int) : (wordB k).length ≤ 7 := by
  unfold wordB
  by_cases h : 1 ≤ k ∧ k ≤ 14
  · obtain ⟨m, rfl⟩ : ∃ m : Nat, k = m := ⟨k.toNat, by omega⟩
    rcases (show m = 1 ∨ m = 2 ∨ m = 3 ∨ m = 4 ∨ m = 5 ∨ m = 6 ∨ m = 7 ∨ m = 8 ∨ m = 9 ∨ m = 10 ∨ m = 11 ∨ m = 12 ∨ m = 13 ∨ m = 14 by omega) with rfl | rfl | rfl | rfl | rfl | rfl | rfl | rfl | rfl | rfl | rfl | rfl | rfl | rfl
    all_goals decide
  · repeat rw [if_neg (by omega)]
    decide
theorem cl_sp {g : Gr} (h : checkE g = 0) (I : g.In) : ∀ x ∈ g.c, (sp (clWords x)).length ≤ 300 := fun x hx => by
  have h1 := cl_name' h hx
  have h2 := Lib.itoa_length_le x.w (I.c x hx).1 (I.c x hx).2
  refine sp_len (by simp [clWords]) fun y hy => ?_
  simp [clWords] at hy
  rcases hy with rfl | rfl | rfl
  · simp
  · omega
  · simp; omega
theorem lo_sp {g : Gr} (h : checkE g = 0) (I : g.In) : ∀ x ∈ g.l, (sp (loWords g x)).length ≤ 300 := fun x hx => by
  have h1 := lo_name h hx
  have h2 := Lib.itoa_length_le x.r (I.l x hx).2.1 (I.l x hx).2.2
  have h3 := inW_len h x.u
  refine sp_len (by simp [loWords]) fun y hy => ?_
  simp [loWords] at hy
  rcases hy with rfl | rfl | rfl | rfl
  · simp
  · omega
  · omega
  · simp; omega
theorem oq_sp {g : Gr} (h : checkE g = 0) (I : g.In) : ∀ x ∈ g.o, (sp (oqWords g x)).length ≤ 300 := fun x hx => by
  have h1 := oq_name h hx
  obtain ⟨_, _, _, ⟨a0, a1⟩, b0, b1⟩ := I.o x hx
  have h2 := Lib.itoa_length_le x.x a0 a1
  have h3 := Lib.itoa_length_le x.y b0 b1
  have h4 := inW_len h x.l
  have h5 := nameC_len h x.a
  have h6 := wordB_len x.k
  refine sp_len ?_ fun y hy => ?_
  · unfold oqWords
    rw [List.length_append, List.length_take]
    simp
    omega
  · unfold oqWords at hy
    rcases List.mem_append.1 hy with hy | hy
    · simp at hy
      rcases hy with rfl | rfl | rfl | rfl | rfl
      · simp
      · omega
      · omega
      · omega
      · simp; omega
    · have := List.mem_of_mem_take hy
      simp at this
      rcases this with rfl | rfl
      · simp; omega
      · simp; omega
theorem ch_sp {g : Gr} (h : checkE g = 0) : ∀ x ∈ g.h, (sp (chWords g x)).length ≤ 300 := fun x hx => by
  have h1 := nameO_len h x.f
  have h2 := nameO_len h x.t
  refine sp_len (by simp [chWords]) fun y hy => ?_
  simp [chWords] at hy
  rcases hy with rfl | rfl | rfl | rfl
  · simp
  · omega
  · simp
  · omega
theorem sp_join {l : List Bs} (h : (sp l).length ≤ 300) : (Lib.join l [32]).length ≤ 1000000 := by
  unfold sp at h
  rw [List.length_append] at h
  omega
theorem ch_range {g : Gr} (h : checkE g = 0) {x : Ch} (hx : x ∈ g.h) : 0 ≤ x.f ∧ x.f < g.o.length ∧ 0 ≤ x.t ∧ x.t < g.o.length := by
  obtain ⟨i, hi, e⟩ := List.getElem_of_mem hx
  have z := first_zero (check_parts h).2.2.2.2 i hi
  unfold chE at z
  rw [List.getElem?_eq_getElem hi, e] at z
  dsimp only at z
  split at z
  · cases z
  · omega
theorem lo_range {g : Gr} (h : checkE g = 0) {x : Lo} (hx : x ∈ g.l) : -1 ≤ x.u ∧ x.u < g.l.length := by
  obtain ⟨i, hi, e⟩ := List.getElem_of_mem hx
  have := up_of (check_parts h).2.2.1 i x hi (by rw [List.getElem?_eq_getElem hi, e])
  omega
set_option maxRecDepth 100000 in
set_option maxHeartbeats 2000000 in
theorem text_any (v : Gv) (g : Gr) (F : Fit v g) (I : g.In) (w : World) (h : Lies4 w v g) (K : KT w) (T10 : Tab10 w) :
    Calls Tryz.prog 21 #[gV v g] w fun e w' => e = .returned (.tuple #[sV (textV g), .int .i64 (checkE g)]) ∧ Below w.heap.size w w' := by
  have CK := fun w1 (h1 : Lies4 w1 v g) (k1 : KT w1) => check_any v g F I w1 h1 k1
  have IW := fun (k : Int) (h0 : -1 ≤ k) (h1 : k < g.l.length) w1 (hl : Lies4 w1 v g) => inWord_any v g F.l k h0 h1 w1 hl
  have FL := F.l
  have FC := F.c
  obtain ⟨va, vb, vd, ve, vi, vj, vk, vm⟩ := v
  unfold gV at CK IW ⊢
  dsimp only at CK IW ⊢
  replace CK := Lib.hid CK
  replace IW := Lib.hid IW
  obtain ⟨E, hE⟩ : ∃ E, checkE g = E := ⟨_, rfl⟩
  obtain ⟨X, hX⟩ : ∃ X, textV g = X := ⟨_, rfl⟩
  rw [hE, hX]
  have hB := Lib.hid (fresh1 w (.cells #[.slice va g.c.length vi, .slice vb g.l.length vj, .slice vd g.o.length vk, .slice ve g.h.length vm] 27))
  have OX := Lib.hid (Whole.fresh w 27 #[.slice va g.c.length vi, .slice vb g.l.length vj, .slice vd g.o.length vk, .slice ve g.h.length vm])
  have H0 := Lib.hid h
  have K0 := Lib.hid K
  have T0 := Lib.hid T10
  have H1 := Lib.hid (h.below hB.out)
  have K1 := Lib.hid (K.below hB.out)
  clear h K T10
  go_enter Tryz.func21, Tryz.ntmps21
  go_upto_region 1 with fail
  change Code.wp _ _ _ _ (w.alloc (.cells #[.slice va g.c.length vi, .slice vb g.l.length vj, .slice vd g.o.length vk, .slice ve g.h.length vm] 27))
  generalize w.alloc (.cells #[.slice va g.c.length vi, .slice vb g.l.length vj, .slice vd g.o.length vk, .slice ve g.h.length vm] 27) = w1 at OX hB H1 K1 ⊢
  obtain ⟨gg, hgg⟩ : ∃ gg, w.heap.size = gg := ⟨_, rfl⟩
  rw [hgg] at OX ⊢
  replace hgg := Lib.hid hgg
  have k := OX.out.read
  have k0 : w1.cell? ⟨gg, 0, none⟩ = some (.slice va g.c.length vi) := k 0
  have k1 : w1.cell? ⟨gg, 1, none⟩ = some (.slice vb g.l.length vj) := k 1
  have k2 : w1.cell? ⟨gg, 2, none⟩ = some (.slice vd g.o.length vk) := k 2
  have k3 : w1.cell? ⟨gg, 3, none⟩ = some (.slice ve g.h.length vm) := k 3
  clear k
  replace CK := Lib.hid (CK.out w1 H1.out K1.out)
  rw [hE] at CK
  by_cases q : E = 0
  case neg =>
    obtain rfl : [] = X := by rw [← hX]; unfold textV; rw [if_neg (by rw [hE]; exact q)]
    have nb : (E == 0) = false := by rw [beq_eq_false_iff_ne]; exact q
    clear hE hX q IW
    go_wp2_with (go_at_call 23; refine CK.out.mono ?_; rintro e w2 ⟨rfl, b2⟩)
    go_ret2
    exact ⟨rfl, hB.out.trans (b2.mono hB.out.size)⟩
  subst q
  obtain ⟨q1, q2, q3, q4, q5⟩ := check_parts hE
  obtain ⟨z1, z2, z3, z4, z5, z6⟩ := sizes_of q1
  have HC := Lib.hid hE
  replace hX : textG g = X := by rw [← hX]; unfold textV; rw [if_pos hE]
  replace hX := Lib.hid hX
  clear hE
  go_upto_region 4 with (go_at_call 23; refine CK.out.mono ?_; rintro e w2 ⟨rfl, b2⟩)
  have B2 := Lib.hid (hB.out.trans (b2.mono hB.out.size))
  have OX2 := Lib.hid (OX.out.below b2 OX.out.inside)
  clear k0 k1 k2 k3 CK b2 OX hB H1 K1
  go_upto_region 5 with fail
  change Code.wp _ _ _ _ (w2.alloc (.cells #[.pointer none, .slice none 0 0] 150))
  have b3 := fresh1 w2 (.cells #[.pointer none, .slice none 0 0] 150)
  have BL3 := BL.made w2
  have hgb := OX2.out.inside
  have OX3 := Lib.hid (OX2.out.below b3 OX2.out.inside)
  have B3 := Lib.hid (B2.out.trans (b3.mono B2.out.size))
  clear OX2 B2
  generalize w2.alloc (.cells #[.pointer none, .slice none 0 0] 150) = w3 at b3 BL3 OX3 B3 ⊢
  have hb3 := b3.size
  generalize w2.heap.size = bb at BL3 hgb hb3 ⊢
  clear b3
  replace BL3 := Lib.hid BL3
  have GGB := Lib.hid hgb
  have HB3 := Lib.hid hb3
  clear hgb hb3
  have GG : ∀ w7, Below bb w3 w7 → ∀ i, w7.cell? ⟨gg, i, none⟩ = #[.slice va g.c.length vi, .slice vb g.l.length vj, .slice vd g.o.length vk, .slice ve g.h.length vm][i]? := fun w7 h7 => (OX3.out.below h7 GGB.out).read
  have HW : ∀ w7, Below bb w3 w7 → Below w.heap.size w w7 := fun w7 h7 => B3.out.trans (h7.mono (by have := GGB.out; have := hgg.out; omega))
  have TB : ∀ w7, Below bb w3 w7 → Tab10 w7 := fun w7 h7 => T0.out.below (HW w7 h7)
  have HL : ∀ w7, Below bb w3 w7 → Lies4 w7 ⟨va, vb, vd, ve, vi, vj, vk, vm⟩ g := fun w7 h7 => H0.out.below (HW w7 h7)
  replace GG := Lib.hid GG
  replace HW := Lib.hid HW
  replace TB := Lib.hid TB
  replace HL := Lib.hid HL
  have k0 : w3.cell? ⟨gg, 0, none⟩ = some (.slice va g.c.length vi) := GG.out w3 (Below.refl _ _) 0
  go_upto_region 6 with fail
  clear k0
  go_wp2_with fail
  obtain ⟨A0, hA0⟩ : ∃ A0, A0 = ([] : Bs) := ⟨_, rfl⟩
  go_loopw [22] (fun a wr => ∃ i : Nat, i ≤ g.c.length ∧ a = .int .i64 i ∧ Hid (BL wr bb bb (A0 ++ upto g.c (fun x => sp (clWords x)) i)) ∧ Hid (Below bb w3 wr)) (fun a _ => (g.c.length - intOf a).toNat)
  case atStart => exact ⟨0, by omega, rfl, by rw [upto_zero, List.append_nil, hA0]; exact BL3, Lib.hid (Below.refl _ _)⟩
  have HA0 := Lib.hid hA0
  have LA0 : Hid (A0.length ≤ 0) := Lib.hid (by rw [hA0]; simp)
  clear hA0
  case round =>
    obtain ⟨i, hi, rfl, BLr, Br⟩ := hrel
    by_cases hin : i = g.c.length
    case neg =>
      have hlt : i < g.c.length := by omega
      obtain ⟨x, hx⟩ : ∃ x, g.c[i]? = some x := ⟨g.c[i], List.getElem?_eq_getElem hlt⟩
      obtain ⟨b1, o1, hA, hb1, c0, c1⟩ := at_cl (HL.out wr Br.out).c hx
      change va = _ at hA
      subst hA
      have hxm := List.mem_of_getElem? hx
      have LEN : Hid ((A0 ++ upto g.c (fun x => sp (clWords x)) i).length ≤ 1000000 ∧ (Lib.join (clWords x) [32]).length ≤ 1000000) := Lib.hid ⟨by
        have h1 := upto_le (L := g.c) (f := fun x => sp (clWords x)) (cl_sp HC.out I) i
        have h2 := LA0.out
        have h3 : g.c.length * 300 ≤ 48 * 300 := Nat.mul_le_mul_right 300 (by omega)
        rw [List.length_append]
        omega, sp_join (cl_sp HC.out I x hxm)⟩
      have HX := Lib.hid (upto_next (f := fun x => sp (clWords x)) hx)
      obtain ⟨n0, n1⟩ := I.c x hxm
      have NB := Lib.hid (fun w (ht : Tab10 w) => number9_any x.w n0 n1 w ht)
      have LENN := Lib.itoa_length_le x.w n0 n1
      clear n0 n1
      obtain ⟨L, hL⟩ : ∃ L, A0 ++ upto g.c (fun x => sp (clWords x)) i = L := ⟨_, rfl⟩
      rw [hL] at BLr LEN
      have HX' : Hid (A0 ++ upto g.c (fun x => sp (clWords x)) (i + 1) = L ++ sp (clWords x)) := Lib.hid (by rw [HX.out, ← List.append_assoc, hL])
      clear hx hxm hL HX
      have HX := HX'
      clear HX'
      go_upto_region 8 with fail
      change Code.wp _ _ _ _ (wr.alloc (.cells #[sV x.n, .int .i64 x.w] 143))
      have bx := fresh1 wr (.cells #[sV x.n, .int .i64 x.w] 143)
      have RX := Lib.hid (Whole.fresh wr 143 #[sV x.n, .int .i64 x.w])
      have BLX := Lib.hid (BLr.out.below bx)
      have BX := Lib.hid (Br.out.trans (bx.mono BLr.out.2))
      have HBX := Lib.hid BLX.out.2
      clear BLr Br c0 c1 hb1 bx
      generalize wr.alloc (.cells #[sV x.n, .int .i64 x.w] 143) = wx at RX BLX BX HBX ⊢
      generalize wr.heap.size = r at RX ⊢
      refine region_full 92 [] [(7, 1), (7, 3)] (fun k => k == 1 || k == 3 || k == 7) (fun w7 => Below bb w3 w7 ∧ wx.heap.size ≤ w7.heap.size) ?hR ?r0 [pdOne 0 (Is (.pointer (some ⟨r, 0, none⟩))), pdOne 1 (Is (sV x.n)), pdOne 2 (Is (.pointer (some ⟨r, 1, none⟩))), pdOne 3 (Is (.int .i64 x.w)), pdOne 4 (Is (sV (Lib.itoa x.w))), pdOne 5 (Is (sV ([119, 111, 114, 107, 101, 114, 115, 61] ++ Lib.itoa x.w))), pdOne 6 (LoneS wx.heap.size (clWords x) (fun w => BL w bb bb (L ++ sp (clWords x)))), pdOne 7 (fun _ w => BL w bb bb (L ++ sp (clWords x)))] (fun k w7 => (k = 1 ∨ k = 3 → Whole w7 r 143 #[sV x.n, .int .i64 x.w]) ∧ (k = 7 → BL w7 bb bb L)) (by kernel_rfl) rfl (by kernel_rfl) (by kernel_rfl) (by kernel_rfl) (by kernel_rfl) ?keep ?hO ?h0 ?tell
      case hR => exact fun w7 w8 hb ⟨h1, h2⟩ => ⟨h1.trans (hb.mono (Nat.le_trans HBX.out h2)), Nat.le_trans h2 hb.size⟩
      case r0 => exact ⟨BX.out, Nat.le_refl _⟩
      case keep => exact ⟨keep_one (keeps_is _), keep_one (keeps_is _), keep_one (keeps_is _), keep_one (keeps_is _), keep_one (keeps_is _), keep_one (keeps_is _), keep_one (fun _ _ _ hb h => h.imp fun gx h => ⟨h.1, h.2.1, h.2.2.imp (fun k => k.below hb k.inside) (fun k => BL.below k hb)⟩), keep_one (fun _ _ _ hb h => BL.below h hb), trivial⟩
      case hO => exact fun k w7 w8 hb ⟨h1, h2⟩ => ⟨fun e => (h1 e).below hb (h1 e).inside, fun e => BL.below (h2 e) hb⟩
      case h0 => exact fun k _ => ⟨fun _ => RX.out, fun _ => BLX.out⟩
      case tell =>
        intro fin hfin
        simp [lexPut, Act.put] at hfin
        simp only [TellF]
        refine ⟨⟨?_, ?_, ?_, ?_, ?_, ?_, ?_, ?_, trivial⟩, ?_⟩
        · intro v2 w7 hr hd
          refine yields_run (u := .pointer (some ⟨r, 0, none⟩)) (w' := w7) ?_ (Below.refl _ _) rfl
          unfold execOp
          simp [go_sem, Act.eval]
        · intro v2 w7 hr ho hd
          have h0 : v2 0 = _ := hd 0 (by kernel_rfl)
          have c0 := ((ho.1 (by decide)).read 0)
          refine .inl (.inl ⟨sV x.n, w7, ?_, hr, fun _ _ _ _ hu => hu, fun _ _ _ _ hu => hu, rfl⟩)
          unfold execOp
          simp [go_sem, Act.eval, Act.put, h0, c0]
        · intro v2 w7 hr hd
          refine yields_run (u := .pointer (some ⟨r, 1, none⟩)) (w' := w7) ?_ (Below.refl _ _) rfl
          unfold execOp
          simp [go_sem, Act.eval, Act.put]
        · intro v2 w7 hr ho hd
          have h2 : v2 2 = _ := hd 2 (by kernel_rfl)
          have c0 := ((ho.1 (by decide)).read 1)
          refine .inl (.inl ⟨.int .i64 x.w, w7, ?_, hr, fun _ _ _ _ hu => hu, fun _ _ _ _ hu => hu, rfl⟩)
          unfold execOp
          simp [go_sem, Act.eval, Act.put, h2, c0]
        · intro v2 w7 hr hd
          have h3 : v2 3 = _ := hd 3 (by kernel_rfl)
          refine yields_call (f := 82) rfl (vs := #[.int .i64 x.w]) (by simp [Act.eval, Act.put, h3]) rfl Tryz.func82 (by kernel_rfl) (by kernel_rfl) ((NB.out w7 (TB.out w7 hr.1)).mono fun e w8 ⟨he, hb⟩ => ⟨_, he, hb, rfl⟩)
        · intro v2 w7 hr hd
          have h4 : v2 4 = _ := hd 4 (by kernel_rfl)
          have ha : ({ data := #[119, 111, 114, 107, 101, 114, 115, 61] } : ByteArray) ++ { data := (Lib.itoa x.w).toArray } = ⟨([119, 111, 114, 107, 101, 114, 115, 61] ++ Lib.itoa x.w).toArray⟩ := str_app9 [119, 111, 114, 107, 101, 114, 115, 61] (Lib.itoa x.w)
          refine yields_run (u := sV ([119, 111, 114, 107, 101, 114, 115, 61] ++ Lib.itoa x.w)) (w' := w7) ?_ (Below.refl _ _) rfl
          unfold execOp
          simp [go_sem, Act.eval, Act.put, h4, ha]
          omega
        · intro v2 w7 hr hd
          have h1 : v2 1 = _ := hd 1 (by kernel_rfl)
          have h5 : v2 5 = _ := hd 5 (by kernel_rfl)
          refine yields_run (u := .slice (some ⟨w7.heap.size, 0, none⟩) ((clWords x)).length ((clWords x)).length) (w' := w7.alloc (.cells (((clWords x)).map sV).toArray 9)) ?_ (fresh1 w7 _) ⟨w7.heap.size, rfl, hr.2, .inl (Whole.fresh w7 _ _)⟩
          unfold execOp
          simp [go_sem, Act.eval, Act.put, h1, h5, clWords]
        · intro v2 w7 hr ho hd
          obtain ⟨gy, hz, hyl, hw⟩ : LoneS wx.heap.size (clWords x) (fun w => BL w bb bb (L ++ sp (clWords x))) (v2 6) w7 := hd 6 (by kernel_rfl)
          have hw := hw.resolve_right (fun k => by have := BL.len (ho.2 trivial) k; simp [sp] at this)
          refine .inl (yieldsW_callR (f := 81) rfl (vs := #[.pointer (some ⟨bb, 0, none⟩), .slice (some ⟨gy, 0, none⟩) (clWords x).length (clWords x).length]) (by simp [Act.eval, Act.put, hz]) rfl Tryz.func81 (by kernel_rfl) (by kernel_rfl) ?_)
          refine (line_any bb bb L gy (clWords x) _ (Nat.le_refl _) (by simp [clWords]) LEN.out.1 LEN.out.2 w7 (ho.2 trivial) hw).mono fun e1 w8 ⟨he1, hb8, hB8⟩ => ⟨_, he1, ⟨hr.1.trans hB8, Nat.le_trans hr.2 hB8.size⟩, ?_, ?_, hb8⟩
          · intro k2 v' hk2 hc hu
            exact match k2, hk2, hc, hu with
              | 0, _, _, hu => hu
              | 1, _, _, hu => hu
              | 2, _, _, hu => hu
              | 3, _, _, hu => hu
              | 4, _, _, hu => hu
              | 5, _, _, hu => hu
              | 6, _, _, ⟨gy, h1, h2, _⟩ => ⟨gy, h1, h2, .inr hb8⟩
              | 7, hk2, _, _ => absurd rfl hk2
              | _ + 8, _, _, _ => trivial
          · intro k2 hk2 hn hc2 ⟨h1, h2⟩
            exact ⟨fun e => by first | (rcases e with rfl | rfl <;> exact absurd hc2 (by decide)) | exact absurd e (by decide), fun e => absurd e hk2⟩
        · intro v2 w7 hr hv
          have hb9 : BL w7 bb bb (L ++ sp (clWords x)) := hv 7 (by decide)
          have hR := hr.1
          rw [hfin]
          clear hfin hv hr
          generalize v2 6 = v6
          generalize v2 7 = v7
          go_wp2_with fail
          go_roundw
          case rel => exact ⟨i + 1, hlt, by go_num, by rw [HX.out]; exact Lib.hid hb9, Lib.hid hR⟩
          case measure => simp [intOf]; omega
    subst hin
    have hlt : ¬ ((g.c.length : Int) < g.c.length) := by omega
    rw [upto_all] at BLr
    have LB0 : (A0 ++ (g.c.map (fun x => sp (clWords x))).flatten).length ≤ 100000 := by
      have h1 := upto_le (L := g.c) (f := fun x => sp (clWords x)) (cl_sp HC.out I) g.c.length
      have h2 := LA0.out
      have h3 : g.c.length * 300 ≤ 48 * 300 := Nat.mul_le_mul_right 300 (by omega)
      rw [upto_all] at h1
      rw [List.length_append]
      omega
    obtain ⟨u0, hnw⟩ : ∃ u0, u0 = wr := ⟨_, rfl⟩
    subst hnw
    have k0 : u0.cell? ⟨gg, 1, none⟩ = some (.slice vb g.l.length vj) := GG.out u0 Br.out 1
    go_upto_region 11 with fail
    clear k0
    go_wp2_with fail
    obtain ⟨A1, hA1⟩ : ∃ A1, A1 = A0 ++ (g.c.map (fun x => sp (clWords x))).flatten := ⟨_, rfl⟩
    go_loopw [38] (fun a wr => ∃ i : Nat, i ≤ g.l.length ∧ a = .int .i64 i ∧ Hid (BL wr bb bb (A1 ++ upto g.l (fun x => sp (loWords g x)) i)) ∧ Hid (Below bb w3 wr)) (fun a _ => (g.l.length - intOf a).toNat)
    case atStart => exact ⟨0, by omega, rfl, by rw [upto_zero, List.append_nil, hA1]; exact BLr, Br⟩
    have HA1 := Lib.hid hA1
    have LA1 : Hid (A1.length ≤ 100000) := Lib.hid (by rw [hA1]; exact LB0)
    clear hA1
    case round =>
      obtain ⟨i, hi, rfl, BLr, Br⟩ := hrel
      by_cases hin : i = g.l.length
      case neg =>
        have hlt : i < g.l.length := by omega
        obtain ⟨x, hx⟩ : ∃ x, g.l[i]? = some x := ⟨g.l[i], List.getElem?_eq_getElem hlt⟩
        obtain ⟨b1, o1, hA, hb1, c0, c1, c2⟩ := at_lo (HL.out wr Br.out).l hx
        change vb = _ at hA
        subst hA
        have hxm := List.mem_of_getElem? hx
        have LEN : Hid ((A1 ++ upto g.l (fun x => sp (loWords g x)) i).length ≤ 1000000 ∧ (Lib.join (loWords g x) [32]).length ≤ 1000000) := Lib.hid ⟨by
          have h1 := upto_le (L := g.l) (f := fun x => sp (loWords g x)) (lo_sp HC.out I) i
          have h2 := LA1.out
          have h3 : g.l.length * 300 ≤ 48 * 300 := Nat.mul_le_mul_right 300 (by omega)
          rw [List.length_append]
          omega, sp_join (lo_sp HC.out I x hxm)⟩
        have HX := Lib.hid (upto_next (f := fun x => sp (loWords g x)) hx)
        obtain ⟨-, n0, n1⟩ := I.l x hxm
        have NB := Lib.hid (fun w (ht : Tab10 w) => number9_any x.r n0 n1 w ht)
        have LENN := Lib.itoa_length_le x.r n0 n1
        obtain ⟨u0, u1⟩ := lo_range HC.out hxm
        have IWX := Lib.hid (IW.out x.u u0 u1)
        clear n0 n1 u0 u1
        obtain ⟨L, hL⟩ : ∃ L, A1 ++ upto g.l (fun x => sp (loWords g x)) i = L := ⟨_, rfl⟩
        rw [hL] at BLr LEN
        have HX' : Hid (A1 ++ upto g.l (fun x => sp (loWords g x)) (i + 1) = L ++ sp (loWords g x)) := Lib.hid (by rw [HX.out, ← List.append_assoc, hL])
        clear hx hxm hL HX
        have HX := HX'
        clear HX'
        go_upto_region 13 with fail
        change Code.wp _ _ _ _ (wr.alloc (.cells #[sV x.n, .int .i64 x.u, .int .i64 x.r] 144))
        have bx := fresh1 wr (.cells #[sV x.n, .int .i64 x.u, .int .i64 x.r] 144)
        have RX := Lib.hid (Whole.fresh wr 144 #[sV x.n, .int .i64 x.u, .int .i64 x.r])
        have BLX := Lib.hid (BLr.out.below bx)
        have BX := Lib.hid (Br.out.trans (bx.mono BLr.out.2))
        have HBX := Lib.hid BLX.out.2
        clear BLr Br c0 c1 c2 hb1 bx
        generalize wr.alloc (.cells #[sV x.n, .int .i64 x.u, .int .i64 x.r] 144) = wx at RX BLX BX HBX ⊢
        generalize wr.heap.size = r at RX ⊢
        refine region_full 92 [] [(11, 1), (11, 4), (11, 7)] (fun k => k == 1 || k == 4 || k == 7 || k == 11) (fun w7 => Below bb w3 w7 ∧ wx.heap.size ≤ w7.heap.size) ?hR ?r0 [pdOne 0 (Is (.pointer (some ⟨r, 0, none⟩))), pdOne 1 (Is (sV x.n)), pdOne 2 (Is (.agg #[.slice va g.c.length vi, .slice (some ⟨b1, o1, none⟩) g.l.length vj, .slice vd g.o.length vk, .slice ve g.h.length vm])), pdOne 3 (Is (.pointer (some ⟨r, 1, none⟩))), pdOne 4 (Is (.int .i64 x.u)), pdOne 5 (Is (sV (inW g x.u))), pdOne 6 (Is (.pointer (some ⟨r, 2, none⟩))), pdOne 7 (Is (.int .i64 x.r)), pdOne 8 (Is (sV (Lib.itoa x.r))), pdOne 9 (Is (sV ([114, 111, 117, 110, 100, 115, 61] ++ Lib.itoa x.r))), pdOne 10 (LoneS wx.heap.size (loWords g x) (fun w => BL w bb bb (L ++ sp (loWords g x)))), pdOne 11 (fun _ w => BL w bb bb (L ++ sp (loWords g x)))] (fun k w7 => (k = 1 ∨ k = 4 ∨ k = 7 → Whole w7 r 144 #[sV x.n, .int .i64 x.u, .int .i64 x.r]) ∧ (k = 11 → BL w7 bb bb L)) (by kernel_rfl) rfl (by kernel_rfl) (by kernel_rfl) (by kernel_rfl) (by kernel_rfl) ?keep ?hO ?h0 ?tell
        case hR => exact fun w7 w8 hb ⟨h1, h2⟩ => ⟨h1.trans (hb.mono (Nat.le_trans HBX.out h2)), Nat.le_trans h2 hb.size⟩
        case r0 => exact ⟨BX.out, Nat.le_refl _⟩
        case keep => exact ⟨keep_one (keeps_is _), keep_one (keeps_is _), keep_one (keeps_is _), keep_one (keeps_is _), keep_one (keeps_is _), keep_one (keeps_is _), keep_one (keeps_is _), keep_one (keeps_is _), keep_one (keeps_is _), keep_one (keeps_is _), keep_one (fun _ _ _ hb h => h.imp fun gx h => ⟨h.1, h.2.1, h.2.2.imp (fun k => k.below hb k.inside) (fun k => BL.below k hb)⟩), keep_one (fun _ _ _ hb h => BL.below h hb), trivial⟩
        case hO => exact fun k w7 w8 hb ⟨h1, h2⟩ => ⟨fun e => (h1 e).below hb (h1 e).inside, fun e => BL.below (h2 e) hb⟩
        case h0 => exact fun k _ => ⟨fun _ => RX.out, fun _ => BLX.out⟩
        case tell =>
          intro fin hfin
          simp [lexPut, Act.put] at hfin
          simp only [TellF]
          refine ⟨⟨?_, ?_, ?_, ?_, ?_, ?_, ?_, ?_, ?_, ?_, ?_, ?_, trivial⟩, ?_⟩
          · intro v2 w7 hr hd
            refine yields_run (u := .pointer (some ⟨r, 0, none⟩)) (w' := w7) ?_ (Below.refl _ _) rfl
            unfold execOp
            simp [go_sem, Act.eval]
          · intro v2 w7 hr ho hd
            have h0 : v2 0 = _ := hd 0 (by kernel_rfl)
            have c0 := ((ho.1 (by decide)).read 0)
            refine .inl (.inl ⟨sV x.n, w7, ?_, hr, fun _ _ _ _ hu => hu, fun _ _ _ _ hu => hu, rfl⟩)
            unfold execOp
            simp [go_sem, Act.eval, Act.put, h0, c0]
          · intro v2 w7 hr hd
            have c0 := (GG.out w7 hr.1 0)
            have c1 := (GG.out w7 hr.1 1)
            have c2 := (GG.out w7 hr.1 2)
            have c3 := (GG.out w7 hr.1 3)
            refine yields_run (u := .agg #[.slice va g.c.length vi, .slice (some ⟨b1, o1, none⟩) g.l.length vj, .slice vd g.o.length vk, .slice ve g.h.length vm]) (w' := w7) ?_ (Below.refl _ _) rfl
            unfold execOp
            simp [go_sem, Act.eval, Act.put, c0, c1, c2, c3]
          · intro v2 w7 hr hd
            refine yields_run (u := .pointer (some ⟨r, 1, none⟩)) (w' := w7) ?_ (Below.refl _ _) rfl
            unfold execOp
            simp [go_sem, Act.eval, Act.put]
          · intro v2 w7 hr ho hd
            have h3 : v2 3 = _ := hd 3 (by kernel_rfl)
            have c0 := ((ho.1 (by decide)).read 1)
            refine .inl (.inl ⟨.int .i64 x.u, w7, ?_, hr, fun _ _ _ _ hu => hu, fun _ _ _ _ hu => hu, rfl⟩)
            unfold execOp
            simp [go_sem, Act.eval, Act.put, h3, c0]
          · intro v2 w7 hr hd
            have h2 : v2 2 = _ := hd 2 (by kernel_rfl)
            have h4 : v2 4 = _ := hd 4 (by kernel_rfl)
            refine yields_call (f := 83) rfl (vs := #[.agg #[.slice va g.c.length vi, .slice (some ⟨b1, o1, none⟩) g.l.length vj, .slice vd g.o.length vk, .slice ve g.h.length vm], .int .i64 x.u]) (by simp [Act.eval, Act.put, h2, h4]) rfl Tryz.func83 (by kernel_rfl) (by kernel_rfl) ((IWX.out w7 (HL.out w7 hr.1)).mono fun e w8 ⟨he, hb⟩ => ⟨_, he, hb, rfl⟩)
          · intro v2 w7 hr hd
            refine yields_run (u := .pointer (some ⟨r, 2, none⟩)) (w' := w7) ?_ (Below.refl _ _) rfl
            unfold execOp
            simp [go_sem, Act.eval, Act.put]
          · intro v2 w7 hr ho hd
            have h6 : v2 6 = _ := hd 6 (by kernel_rfl)
            have c0 := ((ho.1 (by decide)).read 2)
            refine .inl (.inl ⟨.int .i64 x.r, w7, ?_, hr, fun _ _ _ _ hu => hu, fun _ _ _ _ hu => hu, rfl⟩)
            unfold execOp
            simp [go_sem, Act.eval, Act.put, h6, c0]
          · intro v2 w7 hr hd
            have h7 : v2 7 = _ := hd 7 (by kernel_rfl)
            refine yields_call (f := 82) rfl (vs := #[.int .i64 x.r]) (by simp [Act.eval, Act.put, h7]) rfl Tryz.func82 (by kernel_rfl) (by kernel_rfl) ((NB.out w7 (TB.out w7 hr.1)).mono fun e w8 ⟨he, hb⟩ => ⟨_, he, hb, rfl⟩)
          · intro v2 w7 hr hd
            have h8 : v2 8 = _ := hd 8 (by kernel_rfl)
            have ha : ({ data := #[114, 111, 117, 110, 100, 115, 61] } : ByteArray) ++ { data := (Lib.itoa x.r).toArray } = ⟨([114, 111, 117, 110, 100, 115, 61] ++ Lib.itoa x.r).toArray⟩ := str_app9 [114, 111, 117, 110, 100, 115, 61] (Lib.itoa x.r)
            refine yields_run (u := sV ([114, 111, 117, 110, 100, 115, 61] ++ Lib.itoa x.r)) (w' := w7) ?_ (Below.refl _ _) rfl
            unfold execOp
            simp [go_sem, Act.eval, Act.put, h8, ha]
            omega
          · intro v2 w7 hr hd
            have h1 : v2 1 = _ := hd 1 (by kernel_rfl)
            have h5 : v2 5 = _ := hd 5 (by kernel_rfl)
            have h9 : v2 9 = _ := hd 9 (by kernel_rfl)
            refine yields_run (u := .slice (some ⟨w7.heap.size, 0, none⟩) ((loWords g x)).length ((loWords g x)).length) (w' := w7.alloc (.cells (((loWords g x)).map sV).toArray 9)) ?_ (fresh1 w7 _) ⟨w7.heap.size, rfl, hr.2, .inl (Whole.fresh w7 _ _)⟩
            unfold execOp
            simp [go_sem, Act.eval, Act.put, h1, h5, h9, loWords]
          · intro v2 w7 hr ho hd
            obtain ⟨gy, hz, hyl, hw⟩ : LoneS wx.heap.size (loWords g x) (fun w => BL w bb bb (L ++ sp (loWords g x))) (v2 10) w7 := hd 10 (by kernel_rfl)
            have hw := hw.resolve_right (fun k => by have := BL.len (ho.2 trivial) k; simp [sp] at this)
            refine .inl (yieldsW_callR (f := 81) rfl (vs := #[.pointer (some ⟨bb, 0, none⟩), .slice (some ⟨gy, 0, none⟩) (loWords g x).length (loWords g x).length]) (by simp [Act.eval, Act.put, hz]) rfl Tryz.func81 (by kernel_rfl) (by kernel_rfl) ?_)
            refine (line_any bb bb L gy (loWords g x) _ (Nat.le_refl _) (by simp [loWords]) LEN.out.1 LEN.out.2 w7 (ho.2 trivial) hw).mono fun e1 w8 ⟨he1, hb8, hB8⟩ => ⟨_, he1, ⟨hr.1.trans hB8, Nat.le_trans hr.2 hB8.size⟩, ?_, ?_, hb8⟩
            · intro k2 v' hk2 hc hu
              exact match k2, hk2, hc, hu with
                | 0, _, _, hu => hu
                | 1, _, _, hu => hu
                | 2, _, _, hu => hu
                | 3, _, _, hu => hu
                | 4, _, _, hu => hu
                | 5, _, _, hu => hu
                | 6, _, _, hu => hu
                | 7, _, _, hu => hu
                | 8, _, _, hu => hu
                | 9, _, _, hu => hu
                | 10, _, _, ⟨gy, h1, h2, _⟩ => ⟨gy, h1, h2, .inr hb8⟩
                | 11, hk2, _, _ => absurd rfl hk2
                | _ + 12, _, _, _ => trivial
            · intro k2 hk2 hn hc2 ⟨h1, h2⟩
              exact ⟨fun e => by first | (rcases e with rfl | rfl | rfl <;> exact absurd hc2 (by decide)) | exact absurd e (by decide), fun e => absurd e hk2⟩
          · intro v2 w7 hr hv
            have hb9 : BL w7 bb bb (L ++ sp (loWords g x)) := hv 11 (by decide)
            have hR := hr.1
            rw [hfin]
            clear hfin hv hr
            generalize v2 10 = v6
            generalize v2 11 = v7
            go_wp2_with fail
            go_roundw
            case rel => exact ⟨i + 1, hlt, by go_num, by rw [HX.out]; exact Lib.hid hb9, Lib.hid hR⟩
            case measure => simp [intOf]; omega
      subst hin
      have hlt : ¬ ((g.l.length : Int) < g.l.length) := by omega
      rw [upto_all] at BLr
      have LB1 : (A1 ++ (g.l.map (fun x => sp (loWords g x))).flatten).length ≤ 200000 := by
        have h1 := upto_le (L := g.l) (f := fun x => sp (loWords g x)) (lo_sp HC.out I) g.l.length
        have h2 := LA1.out
        have h3 : g.l.length * 300 ≤ 48 * 300 := Nat.mul_le_mul_right 300 (by omega)
        rw [upto_all] at h1
        rw [List.length_append]
        omega
      obtain ⟨u1, hnw⟩ : ∃ u1, u1 = wr := ⟨_, rfl⟩
      subst hnw
      have k0 : u1.cell? ⟨gg, 2, none⟩ = some (.slice vd g.o.length vk) := GG.out u1 Br.out 2
      go_upto_region 16 with fail
      clear k0
      go_wp2_with fail
      obtain ⟨A2, hA2⟩ : ∃ A2, A2 = A1 ++ (g.l.map (fun x => sp (loWords g x))).flatten := ⟨_, rfl⟩
      go_loopw [58] (fun a wr => ∃ i : Nat, i ≤ g.o.length ∧ a = .int .i64 i ∧ Hid (BL wr bb bb (A2 ++ upto g.o (fun x => sp (oqWords g x)) i)) ∧ Hid (Below bb w3 wr)) (fun a _ => (g.o.length - intOf a).toNat)
      case atStart => exact ⟨0, by omega, rfl, by rw [upto_zero, List.append_nil, hA2]; exact BLr, Br⟩
      have HA2 := Lib.hid hA2
      have LA2 : Hid (A2.length ≤ 200000) := Lib.hid (by rw [hA2]; exact LB1)
      clear hA2
      case round =>
        obtain ⟨i, hi, rfl, BLr, Br⟩ := hrel
        by_cases hin : i = g.o.length
        case neg =>
          have hlt : i < g.o.length := by omega
          obtain ⟨x, hx⟩ : ∃ x, g.o[i]? = some x := ⟨g.o[i], List.getElem?_eq_getElem hlt⟩
          obtain ⟨b1, o1, hA, hb1, c0, c1, c2, c3, c4, c5⟩ := at_oq (HL.out wr Br.out).o hx
          change vd = _ at hA
          subst hA
          have hxm := List.mem_of_getElem? hx
          have LEN : Hid ((A2 ++ upto g.o (fun x => sp (oqWords g x)) i).length ≤ 1000000 ∧ (Lib.join (oqWords g x) [32]).length ≤ 1000000) := Lib.hid ⟨by
            have h1 := upto_le (L := g.o) (f := fun x => sp (oqWords g x)) (oq_sp HC.out I) i
            have h2 := LA2.out
            have h3 : g.o.length * 300 ≤ 48 * 300 := Nat.mul_le_mul_right 300 (by omega)
            rw [List.length_append]
            omega, sp_join (oq_sp HC.out I x hxm)⟩
          have HX := Lib.hid (upto_next (f := fun x => sp (oqWords g x)) hx)
          have IO := I.o x hxm
          have OW := Lib.hid (fun w1 (h1 : Lies4 w1 ⟨va, vb, some ⟨b1, o1, none⟩, ve, vi, vj, vk, vm⟩ g) (k1 : KT w1) (t1 : Tab10 w1) => opWords_any ⟨va, vb, some ⟨b1, o1, none⟩, ve, vi, vj, vk, vm⟩ g x FL FC IO (oq_parts HC.out hx).2 w1 h1 k1 t1)
          unfold gV at OW
          dsimp only at OW
          obtain ⟨L, hL⟩ : ∃ L, A2 ++ upto g.o (fun x => sp (oqWords g x)) i = L := ⟨_, rfl⟩
          rw [hL] at BLr LEN
          have HX' : Hid (A2 ++ upto g.o (fun x => sp (oqWords g x)) (i + 1) = L ++ sp (oqWords g x)) := Lib.hid (by rw [HX.out, ← List.append_assoc, hL])
          clear hx hxm hL HX IO
          have HX := HX'
          clear HX'
          go_upto_region 18 with fail
          change Code.wp _ _ _ _ (wr.alloc (.cells #[sV x.n, .int .i64 x.k, .int .i64 x.l, .int .i64 x.a, .int .i64 x.x, .int .i64 x.y] 145))
          have bx := fresh1 wr (.cells #[sV x.n, .int .i64 x.k, .int .i64 x.l, .int .i64 x.a, .int .i64 x.x, .int .i64 x.y] 145)
          have RX := Whole.fresh wr 145 #[sV x.n, .int .i64 x.k, .int .i64 x.l, .int .i64 x.a, .int .i64 x.x, .int .i64 x.y]
          have BLX := Lib.hid (BLr.out.below bx)
          have BX := Lib.hid (Br.out.trans (bx.mono BLr.out.2))
          clear BLr Br c0 c1 c2 c3 c4 c5 hb1 bx
          generalize wr.alloc (.cells #[sV x.n, .int .i64 x.k, .int .i64 x.l, .int .i64 x.a, .int .i64 x.x, .int .i64 x.y] 145) = wx at RX BLX BX ⊢
          generalize wr.heap.size = r at RX ⊢
          have r0 := RX.read 0
          have r1 := RX.read 1
          have r2 := RX.read 2
          have r3 := RX.read 3
          have r4 := RX.read 4
          have r5 := RX.read 5
          have k0 : wx.cell? ⟨gg, 0, none⟩ = some (.slice va g.c.length vi) := GG.out wx BX.out 0
          have k1 : wx.cell? ⟨gg, 1, none⟩ = some (.slice vb g.l.length vj) := GG.out wx BX.out 1
          have k2 : wx.cell? ⟨gg, 2, none⟩ = some (.slice (some ⟨b1, o1, none⟩) g.o.length vk) := GG.out wx BX.out 2
          have k3 : wx.cell? ⟨gg, 3, none⟩ = some (.slice ve g.h.length vm) := GG.out wx BX.out 3
          clear RX
          have OWX := Lib.hid (OW.out wx (HL.out wx BX.out) (K0.out.below (HW.out wx BX.out)) (TB.out wx BX.out))
          clear OW
          go_upto_region 19 with (first
            | (go_at_call 84; refine OWX.out.mono ?_; rintro e w4 ⟨D, cc, rfl, hO, b4⟩; have LN := Lib.hid (lineJ_any bb bb L D (oqWords g x) cc LEN.out.1 LEN.out.2 w4 (BLX.out.below b4) (joinO_any D cc (oqWords g x) wx.heap.size (oqW_len g x) (by have := LEN.out.2; omega) w4 hO)); have B4 := Lib.hid (BX.out.trans (b4.mono BLX.out.2)); clear b4 hO)
            | (go_at_call 81; refine LN.out.mono ?_; rintro e w5 ⟨rfl, hb5, b5⟩; have B5 := Lib.hid (B4.out.trans b5)))
          go_wp2_with fail
          go_roundw
          case rel => exact ⟨i + 1, hlt, by go_num, by rw [HX.out]; exact Lib.hid hb5, B5⟩
          case measure => simp [intOf]; omega
        subst hin
        have hlt : ¬ ((g.o.length : Int) < g.o.length) := by omega
        rw [upto_all] at BLr
        have LB2 : (A2 ++ (g.o.map (fun x => sp (oqWords g x))).flatten).length ≤ 300000 := by
          have h1 := upto_le (L := g.o) (f := fun x => sp (oqWords g x)) (oq_sp HC.out I) g.o.length
          have h2 := LA2.out
          have h3 : g.o.length * 300 ≤ 48 * 300 := Nat.mul_le_mul_right 300 (by omega)
          rw [upto_all] at h1
          rw [List.length_append]
          omega
        obtain ⟨u2, hnw⟩ : ∃ u2, u2 = wr := ⟨_, rfl⟩
        subst hnw
        have k0 : u2.cell? ⟨gg, 3, none⟩ = some (.slice ve g.h.length vm) := GG.out u2 Br.out 3
        go_upto_region 21 with fail
        clear k0
        go_wp2_with fail
        obtain ⟨A3, hA3⟩ : ∃ A3, A3 = A2 ++ (g.o.map (fun x => sp (oqWords g x))).flatten := ⟨_, rfl⟩
        go_loopw [70] (fun a wr => ∃ i : Nat, i ≤ g.h.length ∧ a = .int .i64 i ∧ Hid (BL wr bb bb (A3 ++ upto g.h (fun x => sp (chWords g x)) i)) ∧ Hid (Below bb w3 wr)) (fun a _ => (g.h.length - intOf a).toNat)
        case atStart => exact ⟨0, by omega, rfl, by rw [upto_zero, List.append_nil, hA3]; exact BLr, Br⟩
        have HA3 := Lib.hid hA3
        have LA3 : Hid (A3.length ≤ 300000) := Lib.hid (by rw [hA3]; exact LB2)
        clear hA3
        case round =>
          obtain ⟨i, hi, rfl, BLr, Br⟩ := hrel
          by_cases hin : i = g.h.length
          case neg =>
            have hlt : i < g.h.length := by omega
            obtain ⟨x, hx⟩ : ∃ x, g.h[i]? = some x := ⟨g.h[i], List.getElem?_eq_getElem hlt⟩
            obtain ⟨b1, o1, hA, hb1, c0, c1⟩ := at_ch (HL.out wr Br.out).h hx
            change ve = _ at hA
            subst hA
            have hxm := List.mem_of_getElem? hx
            have LEN : Hid ((A3 ++ upto g.h (fun x => sp (chWords g x)) i).length ≤ 1000000 ∧ (Lib.join (chWords g x) [32]).length ≤ 1000000) := Lib.hid ⟨by
              have h1 := upto_le (L := g.h) (f := fun x => sp (chWords g x)) (ch_sp HC.out) i
              have h2 := LA3.out
              have h3 : g.h.length * 300 ≤ 48 * 300 := Nat.mul_le_mul_right 300 (by omega)
              rw [List.length_append]
              omega, sp_join (ch_sp HC.out x hxm)⟩
            have HX := Lib.hid (upto_next (f := fun x => sp (chWords g x)) hx)
            obtain ⟨f0, f1, t0, t1⟩ := ch_range HC.out hxm
            obtain ⟨xf, xt⟩ := x
            dsimp only at f0 f1 t0 t1 c0 c1
            obtain ⟨m, rfl⟩ : ∃ m : Nat, xf = m := ⟨xf.toNat, by omega⟩
            obtain ⟨n, rfl⟩ : ∃ n : Nat, xt = n := ⟨xt.toNat, by omega⟩
            have hm1 : m < g.o.length := by omega
            have hn1 : n < g.o.length := by omega
            obtain ⟨x1, hx1⟩ : ∃ x, g.o[m]? = some x := ⟨g.o[m], List.getElem?_eq_getElem hm1⟩
            obtain ⟨x2, hx2⟩ : ∃ x, g.o[n]? = some x := ⟨g.o[n], List.getElem?_eq_getElem hn1⟩
            have hcw : chWords g ⟨m, n⟩ = [[102, 114, 111, 109], x1.n, [116, 111], x2.n] := by simp [chWords, nameO, hx1, hx2]
            obtain ⟨bo, oo, hA2, hbo, e1, -⟩ := at_oq (H0.out.o) hx1
            change vd = _ at hA2
            obtain ⟨bo2, oo2, hA3, -, e2, -⟩ := at_oq (H0.out.o) hx2
            change vd = _ at hA3
            subst hA2
            injection (Option.some.inj hA3) with hb2 ho2
            subst hb2 ho2
            clear hA3
            have E1 : ∀ w7, Below bb w3 w7 → w7.cell? ⟨bo, oo + m * 6, none⟩ = some (sV x1.n) := fun w7 h7 => ((HW.out w7 h7).cell (p := ⟨bo, oo + m * 6, none⟩) hbo).trans e1
            have E2 : ∀ w7, Below bb w3 w7 → w7.cell? ⟨bo, oo + n * 6, none⟩ = some (sV x2.n) := fun w7 h7 => ((HW.out w7 h7).cell (p := ⟨bo, oo + n * 6, none⟩) hbo).trans e2
            replace E1 := Lib.hid E1
            replace E2 := Lib.hid E2
            rw [hcw] at LEN HX
            obtain ⟨L, hL⟩ : ∃ L, A3 ++ upto g.h (fun x => sp (chWords g x)) i = L := ⟨_, rfl⟩
            rw [hL] at BLr LEN
            have HX' : Hid (A3 ++ upto g.h (fun x => sp (chWords g x)) (i + 1) = L ++ sp [[102, 114, 111, 109], x1.n, [116, 111], x2.n]) := Lib.hid (by rw [HX.out, ← List.append_assoc, hL])
            clear hx hxm hL HX hx1 hx2 hcw e1 e2 f0 f1 t0 t1
            have HX := HX'
            clear HX'
            go_upto_region 23 with fail
            change Code.wp _ _ _ _ (wr.alloc (.cells #[.int .i64 (m : Int), .int .i64 (n : Int)] 61))
            have bx := fresh1 wr (.cells #[.int .i64 (m : Int), .int .i64 (n : Int)] 61)
            have RX := Lib.hid (Whole.fresh wr 61 #[.int .i64 (m : Int), .int .i64 (n : Int)])
            have BLX := Lib.hid (BLr.out.below bx)
            have BX := Lib.hid (Br.out.trans (bx.mono BLr.out.2))
            have HBX := Lib.hid BLX.out.2
            clear BLr Br c0 c1 hb1 bx
            generalize wr.alloc (.cells #[.int .i64 (m : Int), .int .i64 (n : Int)] 61) = wx at RX BLX BX HBX ⊢
            generalize wr.heap.size = r at RX ⊢
            refine region_full 92 [] [(15, 3), (15, 10)] (fun k => k == 3 || k == 10 || k == 15) (fun w7 => Below bb w3 w7 ∧ wx.heap.size ≤ w7.heap.size) ?hR ?r0 [pdOne 0 (Is (.pointer (some ⟨gg, 2, none⟩))), pdOne 1 (Is (.slice (some ⟨bo, oo, none⟩) g.o.length vk)), pdOne 2 (Is (.pointer (some ⟨r, 0, none⟩))), pdOne 3 (Is (.int .i64 (m : Int))), pdOne 4 (Is (.pointer (some ⟨bo, oo + m * 6, none⟩))), pdOne 5 (Is (.pointer (some ⟨bo, oo + m * 6, none⟩))), pdOne 6 (Is (sV x1.n)), pdOne 7 (Is (.pointer (some ⟨gg, 2, none⟩))), pdOne 8 (Is (.slice (some ⟨bo, oo, none⟩) g.o.length vk)), pdOne 9 (Is (.pointer (some ⟨r, 1, none⟩))), pdOne 10 (Is (.int .i64 (n : Int))), pdOne 11 (Is (.pointer (some ⟨bo, oo + n * 6, none⟩))), pdOne 12 (Is (.pointer (some ⟨bo, oo + n * 6, none⟩))), pdOne 13 (Is (sV x2.n)), pdOne 14 (LoneS wx.heap.size ([[102, 114, 111, 109], x1.n, [116, 111], x2.n] : List Bs) (fun w => BL w bb bb (L ++ sp ([[102, 114, 111, 109], x1.n, [116, 111], x2.n] : List Bs)))), pdOne 15 (fun _ w => BL w bb bb (L ++ sp ([[102, 114, 111, 109], x1.n, [116, 111], x2.n] : List Bs)))] (fun k w7 => (k = 3 ∨ k = 10 → Whole w7 r 61 #[.int .i64 (m : Int), .int .i64 (n : Int)]) ∧ (k = 15 → BL w7 bb bb L)) (by kernel_rfl) rfl (by kernel_rfl) (by kernel_rfl) (by kernel_rfl) (by kernel_rfl) ?keep ?hO ?h0 ?tell
            case hR => exact fun w7 w8 hb ⟨h1, h2⟩ => ⟨h1.trans (hb.mono (Nat.le_trans HBX.out h2)), Nat.le_trans h2 hb.size⟩
            case r0 => exact ⟨BX.out, Nat.le_refl _⟩
            case keep => exact ⟨keep_one (keeps_is _), keep_one (keeps_is _), keep_one (keeps_is _), keep_one (keeps_is _), keep_one (keeps_is _), keep_one (keeps_is _), keep_one (keeps_is _), keep_one (keeps_is _), keep_one (keeps_is _), keep_one (keeps_is _), keep_one (keeps_is _), keep_one (keeps_is _), keep_one (keeps_is _), keep_one (keeps_is _), keep_one (fun _ _ _ hb h => h.imp fun gx h => ⟨h.1, h.2.1, h.2.2.imp (fun k => k.below hb k.inside) (fun k => BL.below k hb)⟩), keep_one (fun _ _ _ hb h => BL.below h hb), trivial⟩
            case hO => exact fun k w7 w8 hb ⟨h1, h2⟩ => ⟨fun e => (h1 e).below hb (h1 e).inside, fun e => BL.below (h2 e) hb⟩
            case h0 => exact fun k _ => ⟨fun _ => RX.out, fun _ => BLX.out⟩
            case tell =>
              intro fin hfin
              simp [lexPut, Act.put] at hfin
              simp only [TellF]
              refine ⟨⟨?_, ?_, ?_, ?_, ?_, ?_, ?_, ?_, ?_, ?_, ?_, ?_, ?_, ?_, ?_, ?_, trivial⟩, ?_⟩
              · intro v2 w7 hr hd
                refine yields_run (u := .pointer (some ⟨gg, 2, none⟩)) (w' := w7) ?_ (Below.refl _ _) rfl
                unfold execOp
                simp [go_sem, Act.eval]
              · intro v2 w7 hr hd
                have h0 : v2 0 = _ := hd 0 (by kernel_rfl)
                have c0 := (GG.out w7 hr.1 2)
                refine yields_run (u := .slice (some ⟨bo, oo, none⟩) g.o.length vk) (w' := w7) ?_ (Below.refl _ _) rfl
                unfold execOp
                simp [go_sem, Act.eval, Act.put, h0, c0]
              · intro v2 w7 hr hd
                refine yields_run (u := .pointer (some ⟨r, 0, none⟩)) (w' := w7) ?_ (Below.refl _ _) rfl
                unfold execOp
                simp [go_sem, Act.eval, Act.put]
              · intro v2 w7 hr ho hd
                have h2 : v2 2 = _ := hd 2 (by kernel_rfl)
                have c0 := ((ho.1 (by decide)).read 0)
                refine .inl (.inl ⟨.int .i64 (m : Int), w7, ?_, hr, fun _ _ _ _ hu => hu, fun _ _ _ _ hu => hu, rfl⟩)
                unfold execOp
                simp [go_sem, Act.eval, Act.put, h2, c0]
              · intro v2 w7 hr hd
                have h1 : v2 1 = _ := hd 1 (by kernel_rfl)
                have h3 : v2 3 = _ := hd 3 (by kernel_rfl)
                exact yields_index (b := bo) (off := oo) (n := g.o.length) (c := vk) (i := m) (m := 6) rfl (by simp [Act.eval, Act.put, h1, h3]) (by simp [Act.eval, Act.put, h1, h3]) hm1 Tryz.underlying24 (by intro w; simp [Tryz.sizeOf145])
              · intro v2 w7 hr hd
                have h4 : v2 4 = _ := hd 4 (by kernel_rfl)
                refine yields_run (u := .pointer (some ⟨bo, oo + m * 6, none⟩)) (w' := w7) ?_ (Below.refl _ _) rfl
                unfold execOp
                simp [go_sem, Act.eval, Act.put, h4]
              · intro v2 w7 hr hd
                have h5 : v2 5 = _ := hd 5 (by kernel_rfl)
                have c0 := (E1.out w7 hr.1)
                refine yields_run (u := sV x1.n) (w' := w7) ?_ (Below.refl _ _) rfl
                unfold execOp
                simp [go_sem, Act.eval, Act.put, h5, c0]
              · intro v2 w7 hr hd
                refine yields_run (u := .pointer (some ⟨gg, 2, none⟩)) (w' := w7) ?_ (Below.refl _ _) rfl
                unfold execOp
                simp [go_sem, Act.eval, Act.put]
              · intro v2 w7 hr hd
                have h7 : v2 7 = _ := hd 7 (by kernel_rfl)
                have c0 := (GG.out w7 hr.1 2)
                refine yields_run (u := .slice (some ⟨bo, oo, none⟩) g.o.length vk) (w' := w7) ?_ (Below.refl _ _) rfl
                unfold execOp
                simp [go_sem, Act.eval, Act.put, h7, c0]
              · intro v2 w7 hr hd
                refine yields_run (u := .pointer (some ⟨r, 1, none⟩)) (w' := w7) ?_ (Below.refl _ _) rfl
                unfold execOp
                simp [go_sem, Act.eval, Act.put]
              · intro v2 w7 hr ho hd
                have h9 : v2 9 = _ := hd 9 (by kernel_rfl)
                have c0 := ((ho.1 (by decide)).read 1)
                refine .inl (.inl ⟨.int .i64 (n : Int), w7, ?_, hr, fun _ _ _ _ hu => hu, fun _ _ _ _ hu => hu, rfl⟩)
                unfold execOp
                simp [go_sem, Act.eval, Act.put, h9, c0]
              · intro v2 w7 hr hd
                have h8 : v2 8 = _ := hd 8 (by kernel_rfl)
                have h10 : v2 10 = _ := hd 10 (by kernel_rfl)
                exact yields_index (b := bo) (off := oo) (n := g.o.length) (c := vk) (i := n) (m := 6) rfl (by simp [Act.eval, Act.put, h8, h10]) (by simp [Act.eval, Act.put, h8, h10]) hn1 Tryz.underlying24 (by intro w; simp [Tryz.sizeOf145])
              · intro v2 w7 hr hd
                have h11 : v2 11 = _ := hd 11 (by kernel_rfl)
                refine yields_run (u := .pointer (some ⟨bo, oo + n * 6, none⟩)) (w' := w7) ?_ (Below.refl _ _) rfl
                unfold execOp
                simp [go_sem, Act.eval, Act.put, h11]
              · intro v2 w7 hr hd
                have h12 : v2 12 = _ := hd 12 (by kernel_rfl)
                have c0 := (E2.out w7 hr.1)
                refine yields_run (u := sV x2.n) (w' := w7) ?_ (Below.refl _ _) rfl
                unfold execOp
                simp [go_sem, Act.eval, Act.put, h12, c0]
              · intro v2 w7 hr hd
                have h6 : v2 6 = _ := hd 6 (by kernel_rfl)
                have h13 : v2 13 = _ := hd 13 (by kernel_rfl)
                refine yields_run (u := .slice (some ⟨w7.heap.size, 0, none⟩) (([[102, 114, 111, 109], x1.n, [116, 111], x2.n] : List Bs)).length (([[102, 114, 111, 109], x1.n, [116, 111], x2.n] : List Bs)).length) (w' := w7.alloc (.cells ((([[102, 114, 111, 109], x1.n, [116, 111], x2.n] : List Bs)).map sV).toArray 9)) ?_ (fresh1 w7 _) ⟨w7.heap.size, rfl, hr.2, .inl (Whole.fresh w7 _ _)⟩
                unfold execOp
                simp [go_sem, Act.eval, Act.put, h6, h13, sV]
              · intro v2 w7 hr ho hd
                obtain ⟨gy, hz, hyl, hw⟩ : LoneS wx.heap.size ([[102, 114, 111, 109], x1.n, [116, 111], x2.n] : List Bs) (fun w => BL w bb bb (L ++ sp ([[102, 114, 111, 109], x1.n, [116, 111], x2.n] : List Bs))) (v2 14) w7 := hd 14 (by kernel_rfl)
                have hw := hw.resolve_right (fun k => by have := BL.len (ho.2 trivial) k; simp [sp] at this)
                refine .inl (yieldsW_callR (f := 81) rfl (vs := #[.pointer (some ⟨bb, 0, none⟩), .slice (some ⟨gy, 0, none⟩) ([[102, 114, 111, 109], x1.n, [116, 111], x2.n] : List Bs).length ([[102, 114, 111, 109], x1.n, [116, 111], x2.n] : List Bs).length]) (by simp [Act.eval, Act.put, hz]) rfl Tryz.func81 (by kernel_rfl) (by kernel_rfl) ?_)
                refine (line_any bb bb L gy ([[102, 114, 111, 109], x1.n, [116, 111], x2.n] : List Bs) _ (Nat.le_refl _) (by simp) LEN.out.1 LEN.out.2 w7 (ho.2 trivial) hw).mono fun e1 w8 ⟨he1, hb8, hB8⟩ => ⟨_, he1, ⟨hr.1.trans hB8, Nat.le_trans hr.2 hB8.size⟩, ?_, ?_, hb8⟩
                · intro k2 v' hk2 hc hu
                  exact match k2, hk2, hc, hu with
                    | 0, _, _, hu => hu
                    | 1, _, _, hu => hu
                    | 2, _, _, hu => hu
                    | 3, _, _, hu => hu
                    | 4, _, _, hu => hu
                    | 5, _, _, hu => hu
                    | 6, _, _, hu => hu
                    | 7, _, _, hu => hu
                    | 8, _, _, hu => hu
                    | 9, _, _, hu => hu
                    | 10, _, _, hu => hu
                    | 11, _, _, hu => hu
                    | 12, _, _, hu => hu
                    | 13, _, _, hu => hu
                    | 14, _, _, ⟨gy, h1, h2, _⟩ => ⟨gy, h1, h2, .inr hb8⟩
                    | 15, hk2, _, _ => absurd rfl hk2
                    | _ + 16, _, _, _ => trivial
                · intro k2 hk2 hn hc2 ⟨h1, h2⟩
                  exact ⟨fun e => by first | (rcases e with rfl | rfl <;> exact absurd hc2 (by decide)) | exact absurd e (by decide), fun e => absurd e hk2⟩
              · intro v2 w7 hr hv
                have hb9 : BL w7 bb bb (L ++ sp ([[102, 114, 111, 109], x1.n, [116, 111], x2.n] : List Bs)) := hv 15 (by decide)
                have hR := hr.1
                rw [hfin]
                clear hfin hv hr
                generalize v2 14 = v6
                generalize v2 15 = v7
                go_wp2_with fail
                go_roundw
                case rel => exact ⟨i + 1, hlt, by go_num, by rw [HX.out]; exact Lib.hid hb9, Lib.hid hR⟩
                case measure => simp [intOf]; omega
          subst hin
          have hlt : ¬ ((g.h.length : Int) < g.h.length) := by omega
          rw [upto_all] at BLr
          have HXX : Hid (A3 ++ (g.h.map fun x => sp (chWords g x)).flatten = X) := Lib.hid (by rw [← hX.out, HA3.out, HA2.out, HA1.out, HA0.out]; simp [textG])
          rw [HXX.out] at BLr
          have ST := Lib.hid (string_any bb bb X wr BLr.out)
          go_wp2_with (go_at_call 85; refine ST.out.mono ?_; rintro e w5 ⟨rfl, b5⟩)
          go_ret2
          exact ⟨rfl, HW.out _ (Br.out.trans b5)⟩
end Go.Proofs.YtpblpjopinllcaaGreatDoor.graph
