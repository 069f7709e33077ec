/-
  graph.Flows (by gen_flp.py).
  The law's own trial of a program (works): it comes out true (by gen_gw9.py).
-/
import Derived.Test.YtpblpjopinllcaaGreatDoorJGflR
import Derived.Test.YtpblpjopinllcaaGreatDoorJGz
import Derived.Test.YtpblpjopinllcaaGreatDoorJGp6
import Derived.Test.YtpblpjopinllcaaGreatDoorJGin
namespace Go.Proofs.YtpblpjopinllcaaGreatDoor.graph
open Go.ChangeShapes Go.WideShapes Go.ChangeAt Go.RowKit Go.Shelf
open Go.Proofs.YtpblpjopinllcaaGreatDoor.opened Go.Proofs.YtpblpjopinllcaaGreatDoor.block Go.Proofs.YtpblpjopinllcaaGreatDoor.words Go.Proofs.YtpblpjopinllcaaGreatDoor.region
set_option maxRecDepth 100000 in
set_option maxHeartbeats 8000000 in
theorem flows_any (v : Gv) (g : Gr) (F : Fit v g) (I : g.In) (w : World) (h : Lies4 w v g) (K : KT w) :
    Calls Tryz.prog 80 #[gV v g] w fun e w' => ∃ (D : Option Addr) (c : Nat), e = .returned (.slice D (flV g).length c) ∧ OwnG 3 1 cI w' w.heap.size (.slice D (flV g).length c) (flV g) ∧ Below w.heap.size w w' := by
  have CK := fun w1 (h1 : Lies4 w1 v g) (k1 : KT w1) => check_any v g F I w1 h1 k1
  obtain ⟨va, vb, vd, ve, vi, vj, vk, vm⟩ := v
  unfold gV at CK ⊢
  dsimp only at CK ⊢
  replace CK := Lib.hid CK
  obtain ⟨E, hE⟩ : ∃ E, checkE g = E := ⟨_, rfl⟩
  obtain ⟨X, hX⟩ : ∃ X, flV g = X := ⟨_, rfl⟩
  rw [hX]
  have hB := Lib.hid (fresh1 w (.cells #[.slice va g.c.length vi, .slice vb g.l.length vj, .slice vd g.o.length vk, .slice ve g.h.length vm] 27))
  have OX := Lib.hid (Whole.fresh w 27 #[.slice va g.c.length vi, .slice vb g.l.length vj, .slice vd g.o.length vk, .slice ve g.h.length vm])
  have H0 := Lib.hid h
  have H1 := Lib.hid (h.below hB.out)
  have K1 := Lib.hid (K.below hB.out)
  clear h K F
  go_enter Tryz.func80, Tryz.ntmps80
  go_upto_region 1 with fail
  change Code.wp _ _ _ _ (w.alloc (.cells #[.slice va g.c.length vi, .slice vb g.l.length vj, .slice vd g.o.length vk, .slice ve g.h.length vm] 27))
  generalize w.alloc (.cells #[.slice va g.c.length vi, .slice vb g.l.length vj, .slice vd g.o.length vk, .slice ve g.h.length vm] 27) = w1 at OX hB H1 K1 ⊢
  obtain ⟨gg, hgg⟩ : ∃ gg, w.heap.size = gg := ⟨_, rfl⟩
  have hW := hB.out.size
  rw [hgg] at OX ⊢
  have hgs := Lib.hid hgg
  clear hgg
  have k := OX.out.read
  have k0 : w1.cell? ⟨gg, 0, none⟩ = some (.slice va g.c.length vi) := k 0
  have k1 : w1.cell? ⟨gg, 1, none⟩ = some (.slice vb g.l.length vj) := k 1
  have k2 : w1.cell? ⟨gg, 2, none⟩ = some (.slice vd g.o.length vk) := k 2
  have k3 : w1.cell? ⟨gg, 3, none⟩ = some (.slice ve g.h.length vm) := k 3
  clear k
  replace CK := Lib.hid (CK.out w1 H1.out K1.out)
  rw [hE] at CK
  by_cases q : E = 0
  case neg =>
    obtain rfl : [] = X := by rw [← hX]; unfold flV; rw [if_neg (by rw [hE]; exact q)]
    have nb : (E == 0) = false := by rw [beq_eq_false_iff_ne]; exact q
    clear hE hX q
    replace hW := Lib.hid hW
    go_wp2_with (go_at_call 23; refine CK.out.mono ?_; rintro e w2 ⟨rfl, b2⟩)
    go_ret
    exact ⟨none, 0, rfl, ownG_nil _ _, hgs.out ▸ hB.out.trans (b2.mono hB.out.size)⟩
  subst q
  obtain ⟨q1, -, -, -, q5⟩ := check_parts hE
  obtain ⟨z1, z2, z3, z4, z5, z6⟩ := sizes_of q1
  have HC := Lib.hid hE
  replace hX : flI g g.h.length = X := by rw [← hX]; unfold flV; rw [if_pos hE]
  replace hX := Lib.hid hX
  clear hE
  replace hW := Lib.hid hW
  go_upto_region 4 with (go_at_call 23; refine CK.out.mono ?_; rintro e w3 ⟨rfl, b2⟩)
  have OX3 := Lib.hid (OX.out.below b2 OX.out.inside)
  have B3 := Lib.hid (hB.out.trans (b2.mono hB.out.size))
  have HS3 : Hid (w.heap.size ≤ w3.heap.size) := Lib.hid (Nat.le_trans hW.out b2.size)
  clear k0 k1 k2 k3 CK b2 OX hB H1 K1 hW
  have GG : ∀ w7, Below w3.heap.size w3 w7 → ∀ i, w7.cell? ⟨gg, i, none⟩ = #[.slice va g.c.length vi, .slice vb g.l.length vj, .slice vd g.o.length vk, .slice ve g.h.length vm][i]? := fun w7 h7 => (OX3.out.below h7 OX3.out.inside).read
  have HW : ∀ w7, Below w3.heap.size w3 w7 → Below w.heap.size w w7 := fun w7 h7 => B3.out.trans (h7.mono B3.out.size)
  replace GG := Lib.hid GG
  replace HW := Lib.hid HW
  obtain ⟨i0, hi, hz0, hz1, hz2⟩ := infoI_parts
  have k0 : w3.cell? ⟨gg, 3, none⟩ = some (.slice ve g.h.length vm) := GG.out w3 (Below.refl _ _) 3
  go_wp2_with fail
  clear k0
  go_loopw [3, 12] (fun sv a wr => ∃ (i : Nat) (N : List Int) (A : Option Addr) (c : Nat), i ≤ g.h.length ∧ a = .int .i64 i ∧ Hid (flI g i = N) ∧ Hid (N.length ≤ 48) ∧ sv = .slice A N.length c ∧ Hid (OwnG 3 1 cI wr w3.heap.size (.slice A N.length c) N) ∧ Hid (Below w3.heap.size w3 wr)) (fun _ a _ => (g.h.length - intOf a).toNat)
  case atStart => exact ⟨0, [], none, 0, by omega, rfl, Lib.hid rfl, Lib.hid (by simp), rfl, Lib.hid (ownG_nil _ _), Lib.hid (Below.refl _ _)⟩
  case round =>
    obtain ⟨i, N, A, c, hi1, rfl, HN, hNi, rfl, HO, Br⟩ := hrel
    by_cases hin : i = g.h.length
    case neg =>
      have hlt : i < g.h.length := by omega
      obtain ⟨x, hx⟩ : ∃ x, g.h[i]? = some x := ⟨g.h[i], List.getElem?_eq_getElem hlt⟩
      have hxm := List.mem_of_getElem? hx
      obtain ⟨f0, f1, t0, t1⟩ := ch_range HC.out hxm
      obtain ⟨xf, xt⟩ := x
      dsimp only at f0 f1 t0 t1
      obtain ⟨m, rfl⟩ : ∃ m : Nat, xf = m := ⟨xf.toNat, by omega⟩
      obtain ⟨n, rfl⟩ : ∃ n : Nat, xt = n := ⟨xt.toNat, by omega⟩
      have hm1 : m < g.o.length := by omega
      have hn1 : n < g.o.length := by omega
      obtain ⟨x1, hx1⟩ : ∃ x, g.o[m]? = some x := ⟨g.o[m], List.getElem?_eq_getElem hm1⟩
      obtain ⟨x2, hx2⟩ : ∃ x, g.o[n]? = some x := ⟨g.o[n], List.getElem?_eq_getElem hn1⟩
      have hfb : flB g i = decide (x1.a ≠ x2.a) := by simp [flB, hx, hx1, hx2]
      obtain ⟨bo, oo, hA2, hbo, -, -, -, e1, -⟩ := at_oq (H0.out.o) hx1
      change vd = _ at hA2
      obtain ⟨bo2, oo2, hA3, -, -, -, -, e2, -⟩ := at_oq (H0.out.o) hx2
      change vd = _ at hA3
      subst hA2
      injection (Option.some.inj hA3) with hb2 ho2
      subst hb2 ho2
      clear hA3
      obtain ⟨b1, o1, hA, hb1, c0, c1⟩ := at_ch H0.out.h hx
      change ve = _ at hA
      subst hA
      have E0 : ∀ w7, Below w3.heap.size w3 w7 → w7.cell? ⟨b1, o1 + i * 2, none⟩ = some (.int .i64 (m : Int)) := fun w7 h7 => ((HW.out w7 h7).cell (p := ⟨b1, o1 + i * 2, none⟩) hb1).trans c0
      have E1 : ∀ w7, Below w3.heap.size w3 w7 → w7.cell? ⟨b1, o1 + i * 2 + 1, none⟩ = some (.int .i64 (n : Int)) := fun w7 h7 => ((HW.out w7 h7).cell (p := ⟨b1, o1 + i * 2 + 1, none⟩) hb1).trans c1
      have F1 : ∀ w7, Below w3.heap.size w3 w7 → w7.cell? ⟨bo, oo + m * 6 + 3, none⟩ = some (.int .i64 x1.a) := fun w7 h7 => ((HW.out w7 h7).cell (p := ⟨bo, oo + m * 6 + 3, none⟩) hbo).trans e1
      have F2 : ∀ w7, Below w3.heap.size w3 w7 → w7.cell? ⟨bo, oo + n * 6 + 3, none⟩ = some (.int .i64 x2.a) := fun w7 h7 => ((HW.out w7 h7).cell (p := ⟨bo, oo + n * 6 + 3, none⟩) hbo).trans e2
      replace E0 := Lib.hid E0
      replace E1 := Lib.hid E1
      replace F1 := Lib.hid F1
      replace F2 := Lib.hid F2
      clear f0 f1 t0 t1 hx hxm hx1 hx2 e1 e2 hbo c0 c1 hb1
      have d0 : wr.cell? ⟨b1, o1 + i * 2, none⟩ = some (.int .i64 (m : Int)) := E0.out wr Br.out
      have d1 : wr.cell? ⟨b1, o1 + i * 2 + 1, none⟩ = some (.int .i64 (n : Int)) := E1.out wr Br.out
      go_upto_region 7 with fail
      change Code.wp _ _ _ _ (wr.alloc (.cells #[.int .i64 (m : Int), .int .i64 (n : Int)] 61))
      have bx := fresh1 wr (.cells #[.int .i64 (m : Int), .int .i64 (n : Int)] 61)
      have RX := Whole.fresh wr 61 #[.int .i64 (m : Int), .int .i64 (n : Int)]
      have BX := Lib.hid (Br.out.trans (bx.mono Br.out.size))
      have HOX := Lib.hid (HO.out.below bx)
      clear Br HO d0 d1 bx
      generalize wr.alloc (.cells #[.int .i64 (m : Int), .int .i64 (n : Int)] 61) = wx at RX BX HOX ⊢
      generalize wr.heap.size = r at RX ⊢
      have RR : ∀ w7, Below wx.heap.size wx w7 → ∀ i, w7.cell? ⟨r, i, none⟩ = (#[.int .i64 (m : Int), .int .i64 (n : Int)] : Array Value)[i]? := fun w7 h7 => (RX.below h7 RX.inside).read
      replace RR := Lib.hid RR
      have HWX : Hid (∀ w7, Below wx.heap.size wx w7 → Below w3.heap.size w3 w7) := Lib.hid fun w7 h7 => BX.out.trans (h7.mono BX.out.size)
      clear RX
      by_cases hq : x1.a = x2.a
      · have HFB : Hid (flB g i = false) := Lib.hid (hfb.trans (by simp [hq]))
        clear hfb
        refine region_full 38 [] [] (fun _ => false) (fun w7 => Below wx.heap.size wx w7 ∧ wx.heap.size ≤ w7.heap.size) ?hR ?r0 [pdOne 0 (Is (.pointer (some ⟨gg, 2, none⟩))), pdOne 1 (Is (.slice (some ⟨bo, oo, none⟩) g.o.length vk)), pdOne 2 (Is (.pointer (some ⟨r, 0, none⟩))), pdOne 3 (Is (.int .i64 (m : Int))), pdOne 4 (Is (.pointer (some ⟨bo, oo + m * 6, none⟩))), pdOne 5 (Is (.pointer (some ⟨bo, oo + m * 6 + 3, none⟩))), pdOne 6 (Is (.int .i64 x1.a)), pdOne 7 (Is (.pointer (some ⟨gg, 2, none⟩))), pdOne 8 (Is (.slice (some ⟨bo, oo, none⟩) g.o.length vk)), pdOne 9 (Is (.pointer (some ⟨r, 1, none⟩))), pdOne 10 (Is (.int .i64 (n : Int))), pdOne 11 (Is (.pointer (some ⟨bo, oo + n * 6, none⟩))), pdOne 12 (Is (.pointer (some ⟨bo, oo + n * 6 + 3, none⟩))), pdOne 13 (Is (.int .i64 x2.a)), pdOne 14 (Is (.bool false))] (fun _ _ => True) (by kernel_rfl) rfl (by kernel_rfl) (by kernel_rfl) (by kernel_rfl) (by kernel_rfl) ?keep ?hO ?h0 ?tell
        case hR => exact fun wa wb hb ⟨h1, h2⟩ => ⟨h1.trans (hb.mono h1.size), Nat.le_trans h2 hb.size⟩
        case r0 => exact ⟨Below.refl _ _, Nat.le_refl _⟩
        case keep => exact ⟨keep_one (keeps_is _), keep_one (keeps_is _), keep_one (keeps_is _), keep_one (keeps_is _), keep_one (keeps_is _), keep_one (keeps_is _), keep_one (keeps_is _), keep_one (keeps_is _), keep_one (keeps_is _), keep_one (keeps_is _), keep_one (keeps_is _), keep_one (keeps_is _), keep_one (keeps_is _), keep_one (keeps_is _), keep_one (keeps_is _), trivial⟩
        case hO => exact fun _ _ _ _ h => h
        case h0 => exact fun _ _ => trivial
        case tell =>
          intro fin hfin
          simp [lexPut, Act.put] at hfin
          simp only [TellF]
          refine ⟨⟨?_, ?_, ?_, ?_, ?_, ?_, ?_, ?_, ?_, ?_, ?_, ?_, ?_, ?_, ?_, trivial⟩, ?_⟩
          · intro v2 w7 hr hd
            refine yields_run (u := .pointer (some ⟨gg, 2, none⟩)) (w' := w7) ?_ (Below.refl _ _) rfl
            unfold execOp
            simp [go_sem, Act.eval]
          · intro v2 w7 hr hd
            have h0 : v2 0 = _ := hd 0 (by kernel_rfl)
            have c0 := (GG.out w7 (HWX.out w7 hr.1) 2)
            refine yields_run (u := .slice (some ⟨bo, oo, none⟩) g.o.length vk) (w' := w7) ?_ (Below.refl _ _) rfl
            unfold execOp
            simp [go_sem, Act.eval, Act.put, h0, c0]
          · intro v2 w7 hr hd
            refine yields_run (u := .pointer (some ⟨r, 0, none⟩)) (w' := w7) ?_ (Below.refl _ _) rfl
            unfold execOp
            simp [go_sem, Act.eval, Act.put]
          · intro v2 w7 hr hd
            have h2 : v2 2 = _ := hd 2 (by kernel_rfl)
            have c0 := (RR.out w7 hr.1 0)
            refine yields_run (u := .int .i64 (m : Int)) (w' := w7) ?_ (Below.refl _ _) rfl
            unfold execOp
            simp [go_sem, Act.eval, Act.put, h2, c0]
          · intro v2 w7 hr hd
            have h1 : v2 1 = _ := hd 1 (by kernel_rfl)
            have h3 : v2 3 = _ := hd 3 (by kernel_rfl)
            exact yields_index (b := bo) (off := oo) (n := g.o.length) (c := vk) (i := m) (m := 6) rfl (by simp [Act.eval, Act.put, h1, h3]) (by simp [Act.eval, Act.put, h1, h3]) hm1 Tryz.underlying24 (by intro w; simp [Tryz.sizeOf145])
          · intro v2 w7 hr hd
            have h4 : v2 4 = _ := hd 4 (by kernel_rfl)
            refine yields_run (u := .pointer (some ⟨bo, oo + m * 6 + 3, none⟩)) (w' := w7) ?_ (Below.refl _ _) rfl
            unfold execOp
            simp [go_sem, Act.eval, Act.put, h4]
          · intro v2 w7 hr hd
            have h5 : v2 5 = _ := hd 5 (by kernel_rfl)
            have c0 := (F1.out w7 (HWX.out w7 hr.1))
            refine yields_run (u := .int .i64 x1.a) (w' := w7) ?_ (Below.refl _ _) rfl
            unfold execOp
            simp [go_sem, Act.eval, Act.put, h5, c0]
          · intro v2 w7 hr hd
            refine yields_run (u := .pointer (some ⟨gg, 2, none⟩)) (w' := w7) ?_ (Below.refl _ _) rfl
            unfold execOp
            simp [go_sem, Act.eval, Act.put]
          · intro v2 w7 hr hd
            have h7 : v2 7 = _ := hd 7 (by kernel_rfl)
            have c0 := (GG.out w7 (HWX.out w7 hr.1) 2)
            refine yields_run (u := .slice (some ⟨bo, oo, none⟩) g.o.length vk) (w' := w7) ?_ (Below.refl _ _) rfl
            unfold execOp
            simp [go_sem, Act.eval, Act.put, h7, c0]
          · intro v2 w7 hr hd
            refine yields_run (u := .pointer (some ⟨r, 1, none⟩)) (w' := w7) ?_ (Below.refl _ _) rfl
            unfold execOp
            simp [go_sem, Act.eval, Act.put]
          · intro v2 w7 hr hd
            have h9 : v2 9 = _ := hd 9 (by kernel_rfl)
            have c0 := (RR.out w7 hr.1 1)
            refine yields_run (u := .int .i64 (n : Int)) (w' := w7) ?_ (Below.refl _ _) rfl
            unfold execOp
            simp [go_sem, Act.eval, Act.put, h9, c0]
          · intro v2 w7 hr hd
            have h8 : v2 8 = _ := hd 8 (by kernel_rfl)
            have h10 : v2 10 = _ := hd 10 (by kernel_rfl)
            exact yields_index (b := bo) (off := oo) (n := g.o.length) (c := vk) (i := n) (m := 6) rfl (by simp [Act.eval, Act.put, h8, h10]) (by simp [Act.eval, Act.put, h8, h10]) hn1 Tryz.underlying24 (by intro w; simp [Tryz.sizeOf145])
          · intro v2 w7 hr hd
            have h11 : v2 11 = _ := hd 11 (by kernel_rfl)
            refine yields_run (u := .pointer (some ⟨bo, oo + n * 6 + 3, none⟩)) (w' := w7) ?_ (Below.refl _ _) rfl
            unfold execOp
            simp [go_sem, Act.eval, Act.put, h11]
          · intro v2 w7 hr hd
            have h12 : v2 12 = _ := hd 12 (by kernel_rfl)
            have c0 := (F2.out w7 (HWX.out w7 hr.1))
            refine yields_run (u := .int .i64 x2.a) (w' := w7) ?_ (Below.refl _ _) rfl
            unfold execOp
            simp [go_sem, Act.eval, Act.put, h12, c0]
          · intro v2 w7 hr hd
            have h6 : v2 6 = _ := hd 6 (by kernel_rfl)
            have h13 : v2 13 = _ := hd 13 (by kernel_rfl)
            refine yields_run (u := .bool false) (w' := w7) ?_ (Below.refl _ _) rfl
            unfold execOp
            simp [go_sem, Act.eval, Act.put, h6, h13, hq]
          · intro v2 w7 hr hv
            have hb9 : v2 14 = .bool false := hv 14 (by decide)
            have hR := Lib.hid hr
            rw [hfin]
            generalize v2 14 = v5 at hb9 ⊢
            subst hb9
            clear hfin hv hr
            have HO7 := Lib.hid (HOX.out.below hR.out.1)
            go_wp2_with fail
            go_roundw
            case rel => exact ⟨i + 1, N, A, c, hlt, by go_num, Lib.hid ((flI_no HFB.out).trans HN.out), hNi, rfl, HO7, Lib.hid (HWX.out w7 hR.out.1)⟩
            case measure => simp [intOf]; omega
      · have HFB : Hid (flB g i = true) := Lib.hid (hfb.trans (by simp [hq]))
        clear hfb
        have nq : (x1.a != x2.a) = true := by simp [hq]
        refine region_full 38 [] [] (fun _ => false) (fun w7 => Below wx.heap.size wx w7 ∧ wx.heap.size ≤ w7.heap.size) ?hR ?r0 [pdOne 0 (Is (.pointer (some ⟨gg, 2, none⟩))), pdOne 1 (Is (.slice (some ⟨bo, oo, none⟩) g.o.length vk)), pdOne 2 (Is (.pointer (some ⟨r, 0, none⟩))), pdOne 3 (Is (.int .i64 (m : Int))), pdOne 4 (Is (.pointer (some ⟨bo, oo + m * 6, none⟩))), pdOne 5 (Is (.pointer (some ⟨bo, oo + m * 6 + 3, none⟩))), pdOne 6 (Is (.int .i64 x1.a)), pdOne 7 (Is (.pointer (some ⟨gg, 2, none⟩))), pdOne 8 (Is (.slice (some ⟨bo, oo, none⟩) g.o.length vk)), pdOne 9 (Is (.pointer (some ⟨r, 1, none⟩))), pdOne 10 (Is (.int .i64 (n : Int))), pdOne 11 (Is (.pointer (some ⟨bo, oo + n * 6, none⟩))), pdOne 12 (Is (.pointer (some ⟨bo, oo + n * 6 + 3, none⟩))), pdOne 13 (Is (.int .i64 x2.a)), pdOne 14 (Is (.bool true))] (fun _ _ => True) (by kernel_rfl) rfl (by kernel_rfl) (by kernel_rfl) (by kernel_rfl) (by kernel_rfl) ?keep ?hO ?h0 ?tell
        case hR => exact fun wa wb hb ⟨h1, h2⟩ => ⟨h1.trans (hb.mono h1.size), Nat.le_trans h2 hb.size⟩
        case r0 => exact ⟨Below.refl _ _, Nat.le_refl _⟩
        case keep => exact ⟨keep_one (keeps_is _), keep_one (keeps_is _), keep_one (keeps_is _), keep_one (keeps_is _), keep_one (keeps_is _), keep_one (keeps_is _), keep_one (keeps_is _), keep_one (keeps_is _), keep_one (keeps_is _), keep_one (keeps_is _), keep_one (keeps_is _), keep_one (keeps_is _), keep_one (keeps_is _), keep_one (keeps_is _), keep_one (keeps_is _), trivial⟩
        case hO => exact fun _ _ _ _ h => h
        case h0 => exact fun _ _ => trivial
        case tell =>
          intro fin hfin
          simp [lexPut, Act.put] at hfin
          simp only [TellF]
          refine ⟨⟨?_, ?_, ?_, ?_, ?_, ?_, ?_, ?_, ?_, ?_, ?_, ?_, ?_, ?_, ?_, trivial⟩, ?_⟩
          · intro v2 w7 hr hd
            refine yields_run (u := .pointer (some ⟨gg, 2, none⟩)) (w' := w7) ?_ (Below.refl _ _) rfl
            unfold execOp
            simp [go_sem, Act.eval]
          · intro v2 w7 hr hd
            have h0 : v2 0 = _ := hd 0 (by kernel_rfl)
            have c0 := (GG.out w7 (HWX.out w7 hr.1) 2)
            refine yields_run (u := .slice (some ⟨bo, oo, none⟩) g.o.length vk) (w' := w7) ?_ (Below.refl _ _) rfl
            unfold execOp
            simp [go_sem, Act.eval, Act.put, h0, c0]
          · intro v2 w7 hr hd
            refine yields_run (u := .pointer (some ⟨r, 0, none⟩)) (w' := w7) ?_ (Below.refl _ _) rfl
            unfold execOp
            simp [go_sem, Act.eval, Act.put]
          · intro v2 w7 hr hd
            have h2 : v2 2 = _ := hd 2 (by kernel_rfl)
            have c0 := (RR.out w7 hr.1 0)
            refine yields_run (u := .int .i64 (m : Int)) (w' := w7) ?_ (Below.refl _ _) rfl
            unfold execOp
            simp [go_sem, Act.eval, Act.put, h2, c0]
          · intro v2 w7 hr hd
            have h1 : v2 1 = _ := hd 1 (by kernel_rfl)
            have h3 : v2 3 = _ := hd 3 (by kernel_rfl)
            exact yields_index (b := bo) (off := oo) (n := g.o.length) (c := vk) (i := m) (m := 6) rfl (by simp [Act.eval, Act.put, h1, h3]) (by simp [Act.eval, Act.put, h1, h3]) hm1 Tryz.underlying24 (by intro w; simp [Tryz.sizeOf145])
          · intro v2 w7 hr hd
            have h4 : v2 4 = _ := hd 4 (by kernel_rfl)
            refine yields_run (u := .pointer (some ⟨bo, oo + m * 6 + 3, none⟩)) (w' := w7) ?_ (Below.refl _ _) rfl
            unfold execOp
            simp [go_sem, Act.eval, Act.put, h4]
          · intro v2 w7 hr hd
            have h5 : v2 5 = _ := hd 5 (by kernel_rfl)
            have c0 := (F1.out w7 (HWX.out w7 hr.1))
            refine yields_run (u := .int .i64 x1.a) (w' := w7) ?_ (Below.refl _ _) rfl
            unfold execOp
            simp [go_sem, Act.eval, Act.put, h5, c0]
          · intro v2 w7 hr hd
            refine yields_run (u := .pointer (some ⟨gg, 2, none⟩)) (w' := w7) ?_ (Below.refl _ _) rfl
            unfold execOp
            simp [go_sem, Act.eval, Act.put]
          · intro v2 w7 hr hd
            have h7 : v2 7 = _ := hd 7 (by kernel_rfl)
            have c0 := (GG.out w7 (HWX.out w7 hr.1) 2)
            refine yields_run (u := .slice (some ⟨bo, oo, none⟩) g.o.length vk) (w' := w7) ?_ (Below.refl _ _) rfl
            unfold execOp
            simp [go_sem, Act.eval, Act.put, h7, c0]
          · intro v2 w7 hr hd
            refine yields_run (u := .pointer (some ⟨r, 1, none⟩)) (w' := w7) ?_ (Below.refl _ _) rfl
            unfold execOp
            simp [go_sem, Act.eval, Act.put]
          · intro v2 w7 hr hd
            have h9 : v2 9 = _ := hd 9 (by kernel_rfl)
            have c0 := (RR.out w7 hr.1 1)
            refine yields_run (u := .int .i64 (n : Int)) (w' := w7) ?_ (Below.refl _ _) rfl
            unfold execOp
            simp [go_sem, Act.eval, Act.put, h9, c0]
          · intro v2 w7 hr hd
            have h8 : v2 8 = _ := hd 8 (by kernel_rfl)
            have h10 : v2 10 = _ := hd 10 (by kernel_rfl)
            exact yields_index (b := bo) (off := oo) (n := g.o.length) (c := vk) (i := n) (m := 6) rfl (by simp [Act.eval, Act.put, h8, h10]) (by simp [Act.eval, Act.put, h8, h10]) hn1 Tryz.underlying24 (by intro w; simp [Tryz.sizeOf145])
          · intro v2 w7 hr hd
            have h11 : v2 11 = _ := hd 11 (by kernel_rfl)
            refine yields_run (u := .pointer (some ⟨bo, oo + n * 6 + 3, none⟩)) (w' := w7) ?_ (Below.refl _ _) rfl
            unfold execOp
            simp [go_sem, Act.eval, Act.put, h11]
          · intro v2 w7 hr hd
            have h12 : v2 12 = _ := hd 12 (by kernel_rfl)
            have c0 := (F2.out w7 (HWX.out w7 hr.1))
            refine yields_run (u := .int .i64 x2.a) (w' := w7) ?_ (Below.refl _ _) rfl
            unfold execOp
            simp [go_sem, Act.eval, Act.put, h12, c0]
          · intro v2 w7 hr hd
            have h6 : v2 6 = _ := hd 6 (by kernel_rfl)
            have h13 : v2 13 = _ := hd 13 (by kernel_rfl)
            refine yields_run (u := .bool true) (w' := w7) ?_ (Below.refl _ _) rfl
            unfold execOp
            simp [go_sem, Act.eval, Act.put, h6, h13, nq]
          · intro v2 w7 hr hv
            have hb9 : v2 14 = .bool true := hv 14 (by decide)
            have hR := Lib.hid hr
            rw [hfin]
            generalize v2 14 = v5 at hb9 ⊢
            subst hb9
            clear hfin hv hr
            have HO7 := Lib.hid (HOX.out.below hR.out.1)
            have B7 := Lib.hid (HWX.out w7 hR.out.1)
            have hs7 := B7.out.size
            have hNi2 : Hid ((N ++ [(i : Int)]).length ≤ 48) := Lib.hid (by have := flI_le g (i + 1); rw [flI_yes HFB.out, HN.out] at this; omega)
            go_wp2_with (at_builtin; refine wpList_append_own _ rfl _ _ 85 rfl w3.heap.size 3 i0 (.int .i64 0) 1 8 Tryz.underlying85 hi hz0 hz1 hz2 rfl (by decide) _ _ _ rfl (HO7.out.below (fresh1 _ (.cells #[.int .i64 (i : Int)] 3))) ⟨_, 0, none⟩ 1 1 [.int .i64 (i : Int)] rfl rfl (cell_new1 _ _ _) (CELLS_cI.one i) (by have := hNi.out; unfold maxLen; omega) (by have := hNi.out; omega) (by simp; omega) ?_; intro v' w8 hown' hgrow _; obtain ⟨g', cap', rfl⟩ := OwnG.succ hown'; have b8 := Lib.hid (ownI_grown HO7.out hs7 hgrow); have HO8 := Lib.hid (show OwnG 3 1 cI w8 w3.heap.size (.slice (some ⟨g', 0, none⟩) (N ++ [(i : Int)]).length cap') (N ++ [(i : Int)]) by have := hown'; simpa [OwnG, cI] using this); clear hown' hgrow)
            go_roundw
            case rel => exact ⟨i + 1, N ++ [(i : Int)], some ⟨g', 0, none⟩, cap', hlt, by go_num, Lib.hid ((flI_yes HFB.out).trans (by rw [HN.out])), hNi2, by simp, HO8, Lib.hid (B7.out.trans b8.out)⟩
            case measure => simp [intOf]; omega
    subst hin
    have hlt : ¬ ((g.h.length : Int) < g.h.length) := by omega
    obtain rfl : N = X := HN.out.symm.trans hX.out
    go_wp2_with fail
    go_ret
    exact ⟨A, c, rfl, ownI_base HS3.out HO.out, HW.out _ Br.out⟩
end Go.Proofs.YtpblpjopinllcaaGreatDoor.graph
set_option linter.unusedSimpArgs false
set_option linter.unusedVariables false
namespace Go.Proofs.YtpblpjopinllcaaGreatDoor.graph
open Go.ChangeShapes Go.WideShapes Go.ChangeAt Go.RowKit
open Go.Proofs.YtpblpjopinllcaaGreatDoor.opened Go.Proofs.YtpblpjopinllcaaGreatDoor.block Go.Proofs.YtpblpjopinllcaaGreatDoor.words Go.Proofs.YtpblpjopinllcaaGreatDoor.region Go.Proofs.YtpblpjopinllcaaGreatDoor.tm
/-- What the listed variables give. -/
structure EnvG (w : World) : Prop where
  e : Env w
  k : KT w
theorem EnvG.below {w w' : World} (h : EnvG w) (hb : Below w.heap.size w w') : EnvG w' := ⟨h.e.below hb, h.k.below hb⟩
def smallL : Bs := [99, 108, 117, 115, 116, 101, 114, 32, 97, 32, 119, 111, 114, 107, 101, 114, 115, 61, 49, 10, 111, 112, 32, 120, 32, 105, 110, 112, 117, 116, 32, 105, 110, 61, 45, 32, 97, 116, 61, 97, 10, 111, 112, 32, 121, 32, 99, 97, 112, 116, 117, 114, 101, 32, 105, 110, 61, 45, 32, 97, 116, 61, 97, 10, 102, 114, 111, 109, 32, 120, 32, 116, 111, 32, 121, 10]
def badL : Bs := [99, 108, 117, 115, 116, 101, 114, 32, 97, 32, 119, 111, 114, 107, 101, 114, 115, 61, 49, 10, 111, 112, 32, 120, 32, 119, 104, 97, 116, 32, 105, 110, 61, 45, 32, 97, 116, 61, 97]
def loneL : Bs := [99, 108, 117, 115, 116, 101, 114, 32, 97, 32, 119, 111, 114, 107, 101, 114, 115, 61, 57]
abbrev G0 : Gr := ⟨[⟨[97], 1⟩], [], [⟨[120], 1, -1, 0, 0, 0⟩, ⟨[121], 2, -1, 0, 0, 0⟩], [⟨0, 1⟩]⟩
theorem in0 : G0.In := ⟨by decide, by decide, by decide, by decide⟩
theorem it1 : Lib.itoa 1 = [49] := by rw [show (1 : Int) = ((1 : Nat) : Int) from rfl, Lib.itoa_nonneg, Lib.decDigits_one (by omega)]; rfl
theorem it9 : Lib.itoa 9 = [57] := by rw [show (9 : Int) = ((9 : Nat) : Int) from rfl, Lib.itoa_nonneg, Lib.decDigits_one (by omega)]; rfl
theorem check0 : checkE G0 = 0 := by decide
theorem text0 : textG G0 = smallL := by
  unfold textG
  simp only [List.map_cons, List.map_nil, clWords, it1]
  decide
theorem textV0 : textV G0 = smallL := by unfold textV; rw [if_pos check0, text0]
theorem parse0 : parseV lastIx smallL = (G0, 0, 0) := by rw [← text0]; exact parse_text ok_last in0 check0
theorem num1 : numE kwWorkers (kwWorkers ++ [49]) = 0 ∧ numV kwWorkers (kwWorkers ++ [49]) = 1 := by
  have := num_front kwWorkers 1 ⟨by omega, by omega⟩
  rwa [it1] at this
theorem num9 : numE kwWorkers (kwWorkers ++ [57]) = 0 ∧ numV kwWorkers (kwWorkers ++ [57]) = 9 := by
  have := num_front kwWorkers 9 ⟨by omega, by omega⟩
  rwa [it9] at this
theorem line1 : lineF lastIx noG (splitL [99, 108, 117, 115, 116, 101, 114, 32, 97, 32, 119, 111, 114, 107, 101, 114, 115, 61, 49]) = (0, ⟨[⟨[97], 1⟩], [], [], []⟩) := by
  have e : splitL [99, 108, 117, 115, 116, 101, 114, 32, 97, 32, 119, 111, 114, 107, 101, 114, 115, 61, 49] = [kwCluster, [97], kwWorkers ++ [49]] := by decide
  rw [e]
  unfold lineF
  dsimp only
  rw [if_pos rfl]
  unfold clF
  dsimp only
  rw [num1.1, num1.2]
  rfl
theorem line9 : lineF lastIx noG (splitL [99, 108, 117, 115, 116, 101, 114, 32, 97, 32, 119, 111, 114, 107, 101, 114, 115, 61, 57]) = (0, ⟨[⟨[97], 9⟩], [], [], []⟩) := by
  have e : splitL [99, 108, 117, 115, 116, 101, 114, 32, 97, 32, 119, 111, 114, 107, 101, 114, 115, 61, 57] = [kwCluster, [97], kwWorkers ++ [57]] := by decide
  rw [e]
  unfold lineF
  dsimp only
  rw [if_pos rfl]
  unfold clF
  dsimp only
  rw [num9.1, num9.2]
  rfl
theorem line2 (g : Gr) : lineF lastIx g (splitL [111, 112, 32, 120, 32, 119, 104, 97, 116, 32, 105, 110, 61, 45, 32, 97, 116, 61, 97]) = (6, g) := by
  have e : splitL [111, 112, 32, 120, 32, 119, 104, 97, 116, 32, 105, 110, 61, 45, 32, 97, 116, 61, 97] = [kwOp, [120], [119, 104, 97, 116], kwInNo, kwAt ++ [97]] := by decide
  rw [e]
  unfold lineF
  dsimp only
  rw [if_neg (by decide), if_neg (by decide), if_pos rfl]
  unfold opF
  dsimp only
  rw [if_pos (.inl (by decide))]
theorem parse1 : parseV lastIx badL = (noG, 2, 6) := by
  have e : linesL badL = [[99, 108, 117, 115, 116, 101, 114, 32, 97, 32, 119, 111, 114, 107, 101, 114, 115, 61, 49], [111, 112, 32, 120, 32, 119, 104, 97, 116, 32, 105, 110, 61, 45, 32, 97, 116, 61, 97]] := by decide
  unfold parseV
  rw [e, parseF, line1, if_neg (by decide), parseF, line2, if_pos (by decide)]
  rfl
theorem parse2 : parseV lastIx loneL = (noG, 0, 3) := by
  have e : linesL loneL = [[99, 108, 117, 115, 116, 101, 114, 32, 97, 32, 119, 111, 114, 107, 101, 114, 115, 61, 57]] := by decide
  unfold parseV
  rw [e, parseF, line9, if_neg (by decide), parseF]
  rfl
theorem fits0 : fitsB G0 0 ⟨5, 0, 0, 0, 0⟩ = true := by decide
theorem fits1 : fitsB G0 9 ⟨0, 0, 0, 0, 0⟩ = false := by decide
theorem flows0 : flV G0 = [] := by decide
theorem in5 : (⟨5, 0, 0, 0, 0⟩ : Tm).In := ⟨by decide, by decide, by decide, by decide, by decide, by decide, by decide, by decide, by decide, by decide⟩
theorem inT0 : (⟨0, 0, 0, 0, 0⟩ : Tm).In := ⟨by decide, by decide, by decide, by decide, by decide, by decide, by decide, by decide, by decide, by decide⟩
theorem fit0 {v : Gv} (R : Rooms v G0) : Fit v G0 := ⟨R.i, R.j, R.k, R.m, by simp, by simp, by simp⟩
set_option maxRecDepth 100000 in
set_option maxHeartbeats 4000000 in
theorem works9_any (w : World) (hE : EnvG w) : Calls Tryz.prog 19 #[] w fun e w' => e = .returned (.bool true) ∧ Below w.heap.size w w' := by
  have E0 := Lib.hid hE
  have P0 : Hid (∀ W, EnvG W → Calls Tryz.prog 15 #[.string ⟨#[99, 108, 117, 115, 116, 101, 114, 32, 97, 32, 119, 111, 114, 107, 101, 114, 115, 61, 49, 10, 111, 112, 32, 120, 32, 105, 110, 112, 117, 116, 32, 105, 110, 61, 45, 32, 97, 116, 61, 97, 10, 111, 112, 32, 121, 32, 99, 97, 112, 116, 117, 114, 101, 32, 105, 110, 61, 45, 32, 97, 116, 61, 97, 10, 102, 114, 111, 109, 32, 120, 32, 116, 111, 32, 121, 10]⟩] W fun e w' => ∃ v', e = .returned (.tuple #[gV v' G0, .int .i64 0, .int .i64 0]) ∧ Lies4 w' v' G0 ∧ Rooms v' G0 ∧ Below W.heap.size W w') := Lib.hid fun W hW => by
    have h := parseP_any smallL (by decide) W hW.e hW.k
    rw [parse0] at h
    exact h
  have P1 : Hid (∀ W, EnvG W → Calls Tryz.prog 15 #[.string ⟨#[99, 108, 117, 115, 116, 101, 114, 32, 97, 32, 119, 111, 114, 107, 101, 114, 115, 61, 49, 10, 111, 112, 32, 120, 32, 119, 104, 97, 116, 32, 105, 110, 61, 45, 32, 97, 116, 61, 97]⟩] W fun e w' => ∃ v', e = .returned (.tuple #[gV v' noG, .int .i64 2, .int .i64 6]) ∧ Below W.heap.size W w') := Lib.hid fun W hW => by
    have h := parseP_any badL (by decide) W hW.e hW.k
    rw [parse1] at h
    exact h.mono fun e w' ⟨v', h1, _, _, h4⟩ => ⟨v', h1, h4⟩
  have P2 : Hid (∀ W, EnvG W → Calls Tryz.prog 15 #[.string ⟨#[99, 108, 117, 115, 116, 101, 114, 32, 97, 32, 119, 111, 114, 107, 101, 114, 115, 61, 57]⟩] W fun e w' => ∃ v', e = .returned (.tuple #[gV v' noG, .int .i64 0, .int .i64 3]) ∧ Below W.heap.size W w') := Lib.hid fun W hW => by
    have h := parseP_any loneL (by decide) W hW.e hW.k
    rw [parse2] at h
    exact h.mono fun e w' ⟨v', h1, _, _, h4⟩ => ⟨v', h1, h4⟩
  clear hE
  go_enter Tryz.func19, Tryz.ntmps19
  go_upto_region 2 with (go_at_call 15; refine (P0.out _ E0.out).mono ?_; rintro e w1 ⟨x, rfl, L1, R1, b1⟩)
  have FT := fit0 R1
  have TX : Hid (∀ W, EnvG W → Lies4 W x G0 → Calls Tryz.prog 21 #[.agg #[.slice x.a 1 x.i, .slice x.b 0 x.j, .slice x.d 2 x.k, .slice x.e 1 x.m]] W fun e w' => e = .returned (.tuple #[.string ⟨#[99, 108, 117, 115, 116, 101, 114, 32, 97, 32, 119, 111, 114, 107, 101, 114, 115, 61, 49, 10, 111, 112, 32, 120, 32, 105, 110, 112, 117, 116, 32, 105, 110, 61, 45, 32, 97, 116, 61, 97, 10, 111, 112, 32, 121, 32, 99, 97, 112, 116, 117, 114, 101, 32, 105, 110, 61, 45, 32, 97, 116, 61, 97, 10, 102, 114, 111, 109, 32, 120, 32, 116, 111, 32, 121, 10]⟩, .int .i64 0]) ∧ Below W.heap.size W w') := Lib.hid fun W hW hL => by
    have h := text_any x G0 FT in0 W hL hW.k hW.e.tab
    rw [textV0, check0] at h
    exact h
  have CK : Hid (∀ W, EnvG W → Lies4 W x G0 → Calls Tryz.prog 23 #[.agg #[.slice x.a 1 x.i, .slice x.b 0 x.j, .slice x.d 2 x.k, .slice x.e 1 x.m]] W fun e w' => e = .returned (.int .i64 0) ∧ Below W.heap.size W w') := Lib.hid fun W hW hL => by
    have h := check_any x G0 FT in0 W hL hW.k
    rw [check0] at h
    exact h
  have FL : Hid (∀ W, EnvG W → Lies4 W x G0 → Calls Tryz.prog 80 #[.agg #[.slice x.a 1 x.i, .slice x.b 0 x.j, .slice x.d 2 x.k, .slice x.e 1 x.m]] W fun e w' => (∃ D c, e = .returned (.slice D 0 c)) ∧ Below W.heap.size W w') := Lib.hid fun W hW hL => by
    have h := flows_any x G0 FT in0 W hL hW.k
    rw [flows0] at h
    exact h.mono fun e w' ⟨D, c, h1, _, h3⟩ => ⟨⟨D, c, h1⟩, h3⟩
  have F5 : Hid (∀ W, EnvG W → Lies4 W x G0 → Calls Tryz.prog 29 #[.agg #[.slice x.a 1 x.i, .slice x.b 0 x.j, .slice x.d 2 x.k, .slice x.e 1 x.m], .int .i64 0, .agg #[.int .u32 5, .int .i64 0, .int .u32 0, .int .u32 0, .int .u32 0]] W fun e w' => e = .returned (.bool true) ∧ Below W.heap.size W w') := Lib.hid fun W hW hL => by
    have h := fits_any x G0 FT in0 0 ⟨5, 0, 0, 0, 0⟩ in5 W hL hW.k
    rw [fits0] at h
    exact h
  have F9 : Hid (∀ W, EnvG W → Lies4 W x G0 → Calls Tryz.prog 29 #[.agg #[.slice x.a 1 x.i, .slice x.b 0 x.j, .slice x.d 2 x.k, .slice x.e 1 x.m], .int .i64 9, .agg #[.int .u32 0, .int .i64 0, .int .u32 0, .int .u32 0, .int .u32 0]] W fun e w' => e = .returned (.bool false) ∧ Below W.heap.size W w') := Lib.hid fun W hW hL => by
    have h := fits_any x G0 FT in0 9 ⟨0, 0, 0, 0, 0⟩ inT0 W hL hW.k
    rw [fits1] at h
    exact h
  clear FT R1
  have B1 := Lib.hid b1
  have W1 := Lib.hid (Whole.fresh w1 27 #[.slice x.a 1 x.i, .slice x.b 0 x.j, .slice x.d 2 x.k, .slice x.e 1 x.m])
  have f1 := fresh1 w1 (.cells #[.slice x.a 1 x.i, .slice x.b 0 x.j, .slice x.d 2 x.k, .slice x.e 1 x.m] 27)
  change Code.wp _ _ _ _ (w1.alloc (.cells #[.slice x.a 1 x.i, .slice x.b 0 x.j, .slice x.d 2 x.k, .slice x.e 1 x.m] 27))
  generalize w1.alloc (.cells #[.slice x.a 1 x.i, .slice x.b 0 x.j, .slice x.d 2 x.k, .slice x.e 1 x.m] 27) = w2 at W1 f1 ⊢
  have B2 := Lib.hid (then_below b1 f1)
  have L2 := Lib.hid (L1.below f1)
  generalize w1.heap.size = gx at W1 ⊢
  clear b1 L1 f1 B1
  have S2 : Hid (∀ W, Below w2.heap.size w2 W → Below w.heap.size w W ∧ EnvG W ∧ Lies4 W x G0 ∧ Whole W gx 27 #[.slice x.a 1 x.i, .slice x.b 0 x.j, .slice x.d 2 x.k, .slice x.e 1 x.m]) := Lib.hid fun W hW => ⟨then_below B2.out hW, E0.out.below (then_below B2.out hW), L2.out.below hW, W1.out.below hW W1.out.inside⟩
  clear B2 L2 W1
  have h2 := S2.out w2 (Below.refl _ _)
  have k0 : w2.cell? ⟨gx, 0, none⟩ = some (.slice x.a 1 x.i) := h2.2.2.2.read 0
  have k1 : w2.cell? ⟨gx, 1, none⟩ = some (.slice x.b 0 x.j) := h2.2.2.2.read 1
  have k2 : w2.cell? ⟨gx, 2, none⟩ = some (.slice x.d 2 x.k) := h2.2.2.2.read 2
  have k3 : w2.cell? ⟨gx, 3, none⟩ = some (.slice x.e 1 x.m) := h2.2.2.2.read 3
  replace h2 := Lib.hid h2
  go_upto_region 3 with (go_at_call 21; refine (TX.out _ h2.out.2.1 h2.out.2.2.1).mono ?_; rintro e w3 ⟨rfl, b3⟩)
  have B3 := Lib.hid b3
  clear k0 k1 k2 k3 h2 b3 TX
  have E3 := Lib.hid (S2.out w3 B3.out).2.1
  go_upto_region 4 with (go_at_call 15; refine (P1.out _ E3.out).mono ?_; rintro e w4 ⟨y, rfl, b4⟩)
  have f4 := fresh1 w4 (.cells #[.slice y.a 0 y.i, .slice y.b 0 y.j, .slice y.d 0 y.k, .slice y.e 0 y.m] 27)
  change Code.wp _ _ _ _ (w4.alloc (.cells #[.slice y.a 0 y.i, .slice y.b 0 y.j, .slice y.d 0 y.k, .slice y.e 0 y.m] 27))
  generalize w4.alloc (.cells #[.slice y.a 0 y.i, .slice y.b 0 y.j, .slice y.d 0 y.k, .slice y.e 0 y.m] 27) = w5 at f4 ⊢
  have B5 := Lib.hid (then_below B3.out (then_below b4 f4))
  clear b4 f4 E3 B3
  have E5 := Lib.hid (S2.out w5 B5.out).2.1
  go_upto_region 5 with (go_at_call 15; refine (P2.out _ E5.out).mono ?_; rintro e w6 ⟨z, rfl, b6⟩)
  have f6 := fresh1 w6 (.cells #[.slice z.a 0 z.i, .slice z.b 0 z.j, .slice z.d 0 z.k, .slice z.e 0 z.m] 27)
  change Code.wp _ _ _ _ (w6.alloc (.cells #[.slice z.a 0 z.i, .slice z.b 0 z.j, .slice z.d 0 z.k, .slice z.e 0 z.m] 27))
  generalize w6.alloc (.cells #[.slice z.a 0 z.i, .slice z.b 0 z.j, .slice z.d 0 z.k, .slice z.e 0 z.m] 27) = w7 at f6 ⊢
  have B7 := Lib.hid (then_below B5.out (then_below b6 f6))
  clear b6 f6 E5 B5
  have h7 := S2.out w7 B7.out
  have k0 : w7.cell? ⟨gx, 0, none⟩ = some (.slice x.a 1 x.i) := h7.2.2.2.read 0
  have k1 : w7.cell? ⟨gx, 1, none⟩ = some (.slice x.b 0 x.j) := h7.2.2.2.read 1
  have k2 : w7.cell? ⟨gx, 2, none⟩ = some (.slice x.d 2 x.k) := h7.2.2.2.read 2
  have k3 : w7.cell? ⟨gx, 3, none⟩ = some (.slice x.e 1 x.m) := h7.2.2.2.read 3
  replace h7 := Lib.hid h7
  have STEP : Hid (∀ W W', Below w2.heap.size w2 W → Below W.heap.size W W' → Below w2.heap.size w2 W') := Lib.hid fun W W' a b => then_below a b
  go_wp2_with (first
    | (go_at_call 29; refine (F9.out _ H9.out.2.1 H9.out.2.2.1).mono ?_; rintro e w11 ⟨rfl, b11⟩; have B11 := Lib.hid (STEP.out _ _ B10.out b11); clear b11)
    | (go_at_call 29; refine (F5.out _ h9.out.2.1 h9.out.2.2.1).mono ?_; rintro e w10 ⟨rfl, b10⟩; have B10 := Lib.hid (STEP.out _ _ B9.out b10); have H9 := Lib.hid (S2.out _ B10.out); have k0 : w10.cell? ⟨gx, 0, none⟩ = some (.slice x.a 1 x.i) := H9.out.2.2.2.read 0; have k1 : w10.cell? ⟨gx, 1, none⟩ = some (.slice x.b 0 x.j) := H9.out.2.2.2.read 1; have k2 : w10.cell? ⟨gx, 2, none⟩ = some (.slice x.d 2 x.k) := H9.out.2.2.2.read 2; have k3 : w10.cell? ⟨gx, 3, none⟩ = some (.slice x.e 1 x.m) := H9.out.2.2.2.read 3; clear b10)
    | (go_at_call 80; refine (FL.out _ h8.out.2.1 h8.out.2.2.1).mono ?_; rintro e w9 ⟨⟨D9, c9, rfl⟩, b9⟩; have B9 := Lib.hid (STEP.out _ _ B8.out b9); have h9 := Lib.hid (S2.out _ B9.out); have k0 : w9.cell? ⟨gx, 0, none⟩ = some (.slice x.a 1 x.i) := h9.out.2.2.2.read 0; have k1 : w9.cell? ⟨gx, 1, none⟩ = some (.slice x.b 0 x.j) := h9.out.2.2.2.read 1; have k2 : w9.cell? ⟨gx, 2, none⟩ = some (.slice x.d 2 x.k) := h9.out.2.2.2.read 2; have k3 : w9.cell? ⟨gx, 3, none⟩ = some (.slice x.e 1 x.m) := h9.out.2.2.2.read 3; clear b9)
    | (go_at_call 23; refine (CK.out _ h7.out.2.1 h7.out.2.2.1).mono ?_; rintro e w8 ⟨rfl, b8⟩; have B8 := Lib.hid (STEP.out _ _ B7.out b8); have h8 := Lib.hid (S2.out _ B8.out); have k0 : w8.cell? ⟨gx, 0, none⟩ = some (.slice x.a 1 x.i) := h8.out.2.2.2.read 0; have k1 : w8.cell? ⟨gx, 1, none⟩ = some (.slice x.b 0 x.j) := h8.out.2.2.2.read 1; have k2 : w8.cell? ⟨gx, 2, none⟩ = some (.slice x.d 2 x.k) := h8.out.2.2.2.read 2; have k3 : w8.cell? ⟨gx, 3, none⟩ = some (.slice x.e 1 x.m) := h8.out.2.2.2.read 3; clear b8))
  go_ret
  exact ⟨rfl, (S2.out _ B11.out).1⟩
end Go.Proofs.YtpblpjopinllcaaGreatDoor.graph
