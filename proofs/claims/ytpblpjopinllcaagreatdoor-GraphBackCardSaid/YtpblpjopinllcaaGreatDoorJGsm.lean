/-
  watershedref01.Same, watershedlaw09.Same: of what is the same (by gen_sm.py).
  The walk of GraphBack (by gen_gwb.py).
-/
import Derived.Test.YtpblpjopinllcaaGreatDoorJGflR
import Derived.Test.YtpblpjopinllcaaGreatDoorJGeq
import Derived.Test.YtpblpjopinllcaaGreatDoorJGgr
import Derived.Test.YtpblpjopinllcaaGreatDoorJGfr
import Derived.Test.YtpblpjopinllcaaGreatDoorJRt3
namespace Go.Proofs.YtpblpjopinllcaaGreatDoor.graph
open Go.ChangeShapes Go.WideShapes Go.ChangeAt Go.RowKit Go.Shelf
open Go.Proofs.YtpblpjopinllcaaGreatDoor.opened Go.Proofs.YtpblpjopinllcaaGreatDoor.block Go.Proofs.YtpblpjopinllcaaGreatDoor.words Go.Proofs.YtpblpjopinllcaaGreatDoor.region
theorem at_int {w : World} {A : Option Addr} {M : List Int} (h : Lg 1 cI w A M) {k : Nat} {p : Int} (hk : M[k]? = some p) :
    ∃ b off, A = some ⟨b, off, none⟩ ∧ b < w.heap.size ∧ w.cell? ⟨b, off + k, none⟩ = some (.int .i64 p) := by
  obtain ⟨b, off, hA, hb, hc⟩ := h.cells hk
  exact ⟨b, off, hA, hb, by simpa [cI, Nat.add_assoc] using hc 0 (by omega)⟩
set_option maxRecDepth 100000 in
set_option maxHeartbeats 2000000 in
theorem sameI_any (N : List Int) (A B : Option Addr) (ca cb : Nat) (w : World) (ha : Lg 1 cI w A N) (hb : Lg 1 cI w B N) (hn : N.length ≤ 100000) :
    Calls Tryz.prog 40 #[.slice A N.length ca, .slice B N.length cb] w fun e w' => e = .returned (.bool true) ∧ Below w.heap.size w w' := by
  have HA := Lib.hid ha
  have HB := Lib.hid hb
  clear ha hb
  go_enter Tryz.func40, Tryz.ntmps40
  go_wp2_with fail
  go_loopw [5] (fun a wr => ∃ i : Nat, i ≤ N.length ∧ a = .int .i64 i ∧ Hid (Below w.heap.size w wr)) (fun a _ => (N.length - intOf a).toNat)
  case atStart => exact ⟨0, by omega, rfl, Lib.hid (Below.refl _ _)⟩
  case round =>
    obtain ⟨i, hi, rfl, Br⟩ := hrel
    by_cases hin : i = N.length
    case neg =>
      have hlt : i < N.length := by omega
      obtain ⟨x, hx⟩ : ∃ x, N[i]? = some x := ⟨N[i], List.getElem?_eq_getElem hlt⟩
      obtain ⟨b1, o1, hA, hb1, c0⟩ := at_int HA.out hx
      obtain ⟨b2, o2, hB, hb2, c1⟩ := at_int HB.out hx
      subst hA
      subst hB
      have E0 : ∀ w7, Below wr.heap.size wr w7 → w7.cell? ⟨b1, o1 + i, none⟩ = some (.int .i64 x) := fun w7 h7 => ((Br.out.trans (h7.mono Br.out.size)).cell (p := ⟨b1, o1 + i, none⟩) hb1).trans c0
      have E1 : ∀ w7, Below wr.heap.size wr w7 → w7.cell? ⟨b2, o2 + i, none⟩ = some (.int .i64 x) := fun w7 h7 => ((Br.out.trans (h7.mono Br.out.size)).cell (p := ⟨b2, o2 + i, none⟩) hb2).trans c1
      replace E0 := Lib.hid E0
      replace E1 := Lib.hid E1
      clear hx c0 c1 hb1 hb2
      go_upto_region 6 with fail
      refine region_full 26 [] [] (fun _ => false) (fun w7 => Below wr.heap.size wr w7 ∧ wr.heap.size ≤ w7.heap.size) ?hR ?r0 [pdOne 0 (Is (.slice (some ⟨b1, o1, none⟩) N.length ca)), pdOne 1 (Is (.int .i64 i)), pdOne 2 (Is (.pointer (some ⟨b1, o1 + i * 1, none⟩))), pdOne 3 (Is (.int .i64 x)), pdOne 4 (Is (.slice (some ⟨b2, o2, none⟩) N.length cb)), pdOne 5 (Is (.int .i64 i)), pdOne 6 (Is (.pointer (some ⟨b2, o2 + i * 1, none⟩))), pdOne 7 (Is (.int .i64 x)), pdOne 8 (Is (.bool false))] (fun _ _ => True) (by kernel_rfl) rfl (by kernel_rfl) (by kernel_rfl) (by kernel_rfl) (by kernel_rfl) ?keep ?hO ?h0 ?tell
      case hR => exact fun wa wb hb ⟨h1, h2⟩ => ⟨h1.trans (hb.mono h1.size), Nat.le_trans h2 hb.size⟩
      case r0 => exact ⟨Below.refl _ _, Nat.le_refl _⟩
      case keep => exact ⟨keep_one (keeps_is _), keep_one (keeps_is _), keep_one (keeps_is _), keep_one (keeps_is _), keep_one (keeps_is _), keep_one (keeps_is _), keep_one (keeps_is _), keep_one (keeps_is _), keep_one (keeps_is _), trivial⟩
      case hO => exact fun _ _ _ _ h => h
      case h0 => exact fun _ _ => trivial
      case tell =>
        intro fin hfin
        simp [lexPut, Act.put] at hfin
        simp only [TellF]
        refine ⟨⟨?_, ?_, ?_, ?_, ?_, ?_, ?_, ?_, ?_, trivial⟩, ?_⟩
        · intro v2 w7 hr hd
          refine yields_run (u := .slice (some ⟨b1, o1, none⟩) N.length ca) (w' := w7) ?_ (Below.refl _ _) rfl
          unfold execOp
          simp [go_sem, Act.eval]
        · intro v2 w7 hr hd
          refine yields_run (u := .int .i64 i) (w' := w7) ?_ (Below.refl _ _) rfl
          unfold execOp
          simp [go_sem, Act.eval, Act.put]
        · intro v2 w7 hr hd
          have h0 : v2 0 = _ := hd 0 (by kernel_rfl)
          have h1 : v2 1 = _ := hd 1 (by kernel_rfl)
          exact yields_index (b := b1) (off := o1) (n := N.length) (c := ca) (i := i) (m := 1) rfl (by simp [Act.eval, Act.put, h0, h1]) (by simp [Act.eval, Act.put, h0, h1]) hlt Tryz.underlying85 (by intro w; simp [Tryz.sizeOf3])
        · intro v2 w7 hr hd
          have h2 : v2 2 = _ := hd 2 (by kernel_rfl)
          have c0 := (E0.out w7 hr.1)
          refine yields_run (u := .int .i64 x) (w' := w7) ?_ (Below.refl _ _) rfl
          unfold execOp
          simp [go_sem, Act.eval, Act.put, h2, c0]
        · intro v2 w7 hr hd
          refine yields_run (u := .slice (some ⟨b2, o2, none⟩) N.length cb) (w' := w7) ?_ (Below.refl _ _) rfl
          unfold execOp
          simp [go_sem, Act.eval, Act.put]
        · intro v2 w7 hr hd
          refine yields_run (u := .int .i64 i) (w' := w7) ?_ (Below.refl _ _) rfl
          unfold execOp
          simp [go_sem, Act.eval, Act.put]
        · intro v2 w7 hr hd
          have h4 : v2 4 = _ := hd 4 (by kernel_rfl)
          have h5 : v2 5 = _ := hd 5 (by kernel_rfl)
          exact yields_index (b := b2) (off := o2) (n := N.length) (c := cb) (i := i) (m := 1) rfl (by simp [Act.eval, Act.put, h4, h5]) (by simp [Act.eval, Act.put, h4, h5]) hlt Tryz.underlying85 (by intro w; simp [Tryz.sizeOf3])
        · intro v2 w7 hr hd
          have h6 : v2 6 = _ := hd 6 (by kernel_rfl)
          have c0 := (E1.out w7 hr.1)
          refine yields_run (u := .int .i64 x) (w' := w7) ?_ (Below.refl _ _) rfl
          unfold execOp
          simp [go_sem, Act.eval, Act.put, h6, c0]
        · intro v2 w7 hr hd
          have h3 : v2 3 = _ := hd 3 (by kernel_rfl)
          have h7 : v2 7 = _ := hd 7 (by kernel_rfl)
          refine yields_run (u := .bool false) (w' := w7) ?_ (Below.refl _ _) rfl
          unfold execOp
          simp [go_sem, Act.eval, Act.put, h3, h7, bne_self_eq_false]
        · intro v2 w7 hr hv
          have hb9 : v2 8 = .bool false := hv 8 (by decide)
          have hR := Lib.hid hr
          rw [hfin]
          generalize v2 8 = v5 at hb9 ⊢
          subst hb9
          clear hfin hv hr
          go_wp2_with fail
          go_roundw
          case rel => exact ⟨i + 1, hlt, by go_num, Lib.hid (Br.out.trans (hR.out.1.mono Br.out.size))⟩
          case measure => simp [intOf]; omega
    subst hin
    have hlt : ¬ ((N.length : Int) < N.length) := by omega
    go_wp2_with fail
    go_ret
    exact ⟨rfl, Br.out⟩
set_option maxRecDepth 100000 in
set_option maxHeartbeats 8000000 in
theorem sameG_any (u v : Gv) (g : Gr) (w : World) (hu : Lies4 w u g) (hv : Lies4 w v g) (y1 : g.c.length ≤ 100000) (y2 : g.l.length ≤ 100000) (y3 : g.o.length ≤ 100000) (y4 : g.h.length ≤ 100000) :
    Calls Tryz.prog 17 #[gV u g, gV v g] w fun e w' => e = .returned (.bool true) ∧ Below w.heap.size w w' := by
  obtain ⟨ua, ub, ud, ue, ui, uj, uk, um⟩ := u
  obtain ⟨va, vb, vd, ve, vi, vj, vk, vm⟩ := v
  unfold gV
  dsimp only
  have b1 := fresh1 w (.cells #[.slice ua g.c.length ui, .slice ub g.l.length uj, .slice ud g.o.length uk, .slice ue g.h.length um] 36)
  have O1 := Whole.fresh w 36 #[.slice ua g.c.length ui, .slice ub g.l.length uj, .slice ud g.o.length uk, .slice ue g.h.length um]
  have b2 := fresh1 (w.alloc (.cells #[.slice ua g.c.length ui, .slice ub g.l.length uj, .slice ud g.o.length uk, .slice ue g.h.length um] 36)) (.cells #[.slice va g.c.length vi, .slice vb g.l.length vj, .slice vd g.o.length vk, .slice ve g.h.length vm] 36)
  have O2 := Whole.fresh (w.alloc (.cells #[.slice ua g.c.length ui, .slice ub g.l.length uj, .slice ud g.o.length uk, .slice ue g.h.length um] 36)) 36 #[.slice va g.c.length vi, .slice vb g.l.length vj, .slice vd g.o.length vk, .slice ve g.h.length vm]
  have P1 := Lib.hid (O1.below b2 O1.inside)
  have P2 := Lib.hid O2
  have BB := Lib.hid (b1.trans (b2.mono b1.size))
  have HU := Lib.hid hu
  have HV := Lib.hid hv
  clear hu hv b1 O1 b2 O2
  go_enter Tryz.func17, Tryz.ntmps17
  go_upto_region 1 with fail
  change Code.wp _ _ _ _ ((w.alloc (.cells #[.slice ua g.c.length ui, .slice ub g.l.length uj, .slice ud g.o.length uk, .slice ue g.h.length um] 36)).alloc (.cells #[.slice va g.c.length vi, .slice vb g.l.length vj, .slice vd g.o.length vk, .slice ve g.h.length vm] 36))
  have hsz : (w.alloc (.cells #[.slice ua g.c.length ui, .slice ub g.l.length uj, .slice ud g.o.length uk, .slice ue g.h.length um] 36)).heap.size = w.heap.size + 1 := by first | simp | simp [World.alloc]
  rw [hsz] at P2
  clear hsz
  generalize hg2 : w.heap.size + 1 = g2 at P2 ⊢
  replace hg2 := Lib.hid hg2
  generalize (w.alloc (.cells #[.slice ua g.c.length ui, .slice ub g.l.length uj, .slice ud g.o.length uk, .slice ue g.h.length um] 36)).alloc (.cells #[.slice va g.c.length vi, .slice vb g.l.length vj, .slice vd g.o.length vk, .slice ve g.h.length vm] 36) = w3 at P1 P2 BB ⊢
  obtain ⟨g1, hg1⟩ : ∃ g1, w.heap.size = g1 := ⟨_, rfl⟩
  have BW := Lib.hid BB.out
  rw [hg1] at P1 ⊢
  have hgs := Lib.hid hg1
  clear hg1 BB
  have G1 : ∀ w7, Below w3.heap.size w3 w7 → ∀ i, w7.cell? ⟨g1, i, none⟩ = #[.slice ua g.c.length ui, .slice ub g.l.length uj, .slice ud g.o.length uk, .slice ue g.h.length um][i]? := fun w7 h7 => (P1.out.below h7 P1.out.inside).read
  have G2 : ∀ w7, Below w3.heap.size w3 w7 → ∀ i, w7.cell? ⟨g2, i, none⟩ = #[.slice va g.c.length vi, .slice vb g.l.length vj, .slice vd g.o.length vk, .slice ve g.h.length vm][i]? := fun w7 h7 => (P2.out.below h7 P2.out.inside).read
  have HW : ∀ w7, Below w3.heap.size w3 w7 → Below w.heap.size w w7 := fun w7 h7 => BW.out.trans (h7.mono BW.out.size)
  replace G1 := Lib.hid G1
  replace G2 := Lib.hid G2
  replace HW := Lib.hid HW
  clear P1 P2
  have k0 : w3.cell? ⟨g1, 0, none⟩ = some (.slice ua g.c.length ui) := G1.out w3 (Below.refl _ _) 0
  have l0 : w3.cell? ⟨g2, 0, none⟩ = some (.slice va g.c.length vi) := G2.out w3 (Below.refl _ _) 0
  have k1 : w3.cell? ⟨g1, 1, none⟩ = some (.slice ub g.l.length uj) := G1.out w3 (Below.refl _ _) 1
  have l1 : w3.cell? ⟨g2, 1, none⟩ = some (.slice vb g.l.length vj) := G2.out w3 (Below.refl _ _) 1
  have k2 : w3.cell? ⟨g1, 2, none⟩ = some (.slice ud g.o.length uk) := G1.out w3 (Below.refl _ _) 2
  have l2 : w3.cell? ⟨g2, 2, none⟩ = some (.slice vd g.o.length vk) := G2.out w3 (Below.refl _ _) 2
  have k3 : w3.cell? ⟨g1, 3, none⟩ = some (.slice ue g.h.length um) := G1.out w3 (Below.refl _ _) 3
  have l3 : w3.cell? ⟨g2, 3, none⟩ = some (.slice ve g.h.length vm) := G2.out w3 (Below.refl _ _) 3
  go_upto_region 4 with fail
  clear k0 k1 k2 k3 l0 l1 l2 l3
  go_wp2_with fail
  go_loopw [5] (fun a wr => ∃ i : Nat, i ≤ g.c.length ∧ a = .int .i64 i ∧ Hid (Below w3.heap.size w3 wr)) (fun a _ => (g.c.length - intOf a).toNat)
  case atStart => exact ⟨0, by omega, rfl, Lib.hid (Below.refl _ _)⟩
  case round =>
    obtain ⟨i, hi, rfl, Br⟩ := hrel
    have k0 : wr.cell? ⟨g1, 0, none⟩ = some (.slice ua g.c.length ui) := G1.out wr Br.out 0
    by_cases hin : i = g.c.length
    case neg =>
      have hlt : i < g.c.length := by omega
      obtain ⟨x, hx⟩ : ∃ x, g.c[i]? = some x := ⟨g.c[i], List.getElem?_eq_getElem hlt⟩
      obtain ⟨b1, o1, hA, hb1, c0, c1⟩ := at_cl HU.out.c hx
      change ua = _ at hA
      obtain ⟨b2, o2, hB, hb2, d0, d1⟩ := at_cl HV.out.c hx
      change va = _ at hB
      subst hA
      subst hB
      have E0 : ∀ w7, Below wr.heap.size wr w7 → w7.cell? ⟨b1, o1 + i * 2, none⟩ = some (sV x.n) := fun w7 h7 => ((HW.out w7 (Br.out.trans (h7.mono Br.out.size))).cell (p := ⟨b1, o1 + i * 2, none⟩) hb1).trans c0
      have F0 : ∀ w7, Below wr.heap.size wr w7 → w7.cell? ⟨b2, o2 + i * 2, none⟩ = some (sV x.n) := fun w7 h7 => ((HW.out w7 (Br.out.trans (h7.mono Br.out.size))).cell (p := ⟨b2, o2 + i * 2, none⟩) hb2).trans d0
      replace E0 := Lib.hid E0
      replace F0 := Lib.hid F0
      have E1 : ∀ w7, Below wr.heap.size wr w7 → w7.cell? ⟨b1, o1 + i * 2 + 1, none⟩ = some (.int .i64 x.w) := fun w7 h7 => ((HW.out w7 (Br.out.trans (h7.mono Br.out.size))).cell (p := ⟨b1, o1 + i * 2 + 1, none⟩) hb1).trans c1
      have F1 : ∀ w7, Below wr.heap.size wr w7 → w7.cell? ⟨b2, o2 + i * 2 + 1, none⟩ = some (.int .i64 x.w) := fun w7 h7 => ((HW.out w7 (Br.out.trans (h7.mono Br.out.size))).cell (p := ⟨b2, o2 + i * 2 + 1, none⟩) hb2).trans d1
      replace E1 := Lib.hid E1
      replace F1 := Lib.hid F1
      have nq : ∀ w, (Op.equalIn 10000 137 (.agg #[sV x.n, .int .i64 x.w]) (.agg #[sV x.n, .int .i64 x.w])).run Tryz.prog w = .ok true w := fun w => eqCluster9 ⟨x.n.toArray⟩ x.w w
      clear hx c0 d0 c1 d1 hb1 hb2
      go_upto_region 6 with fail
      clear k0
      refine region_full 115 [] [] (fun _ => false) (fun w7 => Below wr.heap.size wr w7 ∧ wr.heap.size ≤ w7.heap.size) ?hR ?r0 [pdOne 0 (Is (.pointer (some ⟨g1, 0, none⟩))), pdOne 1 (Is (.slice (some ⟨b1, o1, none⟩) g.c.length ui)), pdOne 2 (Is (.int .i64 i)), pdOne 3 (Is (.pointer (some ⟨b1, o1 + i * 2, none⟩))), pdOne 4 (Is (.agg #[sV x.n, .int .i64 x.w])), pdOne 5 (Is (.pointer (some ⟨g2, 0, none⟩))), pdOne 6 (Is (.slice (some ⟨b2, o2, none⟩) g.c.length vi)), pdOne 7 (Is (.int .i64 i)), pdOne 8 (Is (.pointer (some ⟨b2, o2 + i * 2, none⟩))), pdOne 9 (Is (.agg #[sV x.n, .int .i64 x.w])), pdOne 10 (Is (.bool false))] (fun _ _ => True) (by kernel_rfl) rfl (by kernel_rfl) (by kernel_rfl) (by kernel_rfl) (by kernel_rfl) ?keep ?hO ?h0 ?tell
      case hR => exact fun wa wb hb ⟨h1, h2⟩ => ⟨h1.trans (hb.mono h1.size), Nat.le_trans h2 hb.size⟩
      case r0 => exact ⟨Below.refl _ _, Nat.le_refl _⟩
      case keep => exact ⟨keep_one (keeps_is _), keep_one (keeps_is _), keep_one (keeps_is _), keep_one (keeps_is _), keep_one (keeps_is _), keep_one (keeps_is _), keep_one (keeps_is _), keep_one (keeps_is _), keep_one (keeps_is _), keep_one (keeps_is _), keep_one (keeps_is _), trivial⟩
      case hO => exact fun _ _ _ _ h => h
      case h0 => exact fun _ _ => trivial
      case tell =>
        intro fin hfin
        simp [lexPut, Act.put] at hfin
        simp only [TellF]
        refine ⟨⟨?_, ?_, ?_, ?_, ?_, ?_, ?_, ?_, ?_, ?_, ?_, trivial⟩, ?_⟩
        · intro v2 w7 hr hd
          refine yields_run (u := .pointer (some ⟨g1, 0, none⟩)) (w' := w7) ?_ (Below.refl _ _) rfl
          unfold execOp
          simp [go_sem, Act.eval]
        · intro v2 w7 hr hd
          have h0 : v2 0 = _ := hd 0 (by kernel_rfl)
          have c0 := (G1.out w7 (Br.out.trans (hr.1.mono Br.out.size)) 0)
          refine yields_run (u := .slice (some ⟨b1, o1, none⟩) g.c.length ui) (w' := w7) ?_ (Below.refl _ _) rfl
          unfold execOp
          simp [go_sem, Act.eval, Act.put, h0, c0]
        · intro v2 w7 hr hd
          refine yields_run (u := .int .i64 i) (w' := w7) ?_ (Below.refl _ _) rfl
          unfold execOp
          simp [go_sem, Act.eval, Act.put]
        · intro v2 w7 hr hd
          have h1 : v2 1 = _ := hd 1 (by kernel_rfl)
          have h2 : v2 2 = _ := hd 2 (by kernel_rfl)
          exact yields_index (b := b1) (off := o1) (n := g.c.length) (c := ui) (i := i) (m := 2) rfl (by simp [Act.eval, Act.put, h1, h2]) (by simp [Act.eval, Act.put, h1, h2]) hlt Tryz.underlying31 (by intro w; simp [Tryz.sizeOf137])
        · intro v2 w7 hr hd
          have h3 : v2 3 = _ := hd 3 (by kernel_rfl)
          have c0 := (E0.out w7 hr.1)
          have c1 := (E1.out w7 hr.1)
          refine yields_run (u := .agg #[sV x.n, .int .i64 x.w]) (w' := w7) ?_ (Below.refl _ _) rfl
          unfold execOp
          simp [go_sem, Act.eval, Act.put, h3, c0, c1]
        · intro v2 w7 hr hd
          refine yields_run (u := .pointer (some ⟨g2, 0, none⟩)) (w' := w7) ?_ (Below.refl _ _) rfl
          unfold execOp
          simp [go_sem, Act.eval, Act.put]
        · intro v2 w7 hr hd
          have h5 : v2 5 = _ := hd 5 (by kernel_rfl)
          have c0 := (G2.out w7 (Br.out.trans (hr.1.mono Br.out.size)) 0)
          refine yields_run (u := .slice (some ⟨b2, o2, none⟩) g.c.length vi) (w' := w7) ?_ (Below.refl _ _) rfl
          unfold execOp
          simp [go_sem, Act.eval, Act.put, h5, c0]
        · intro v2 w7 hr hd
          refine yields_run (u := .int .i64 i) (w' := w7) ?_ (Below.refl _ _) rfl
          unfold execOp
          simp [go_sem, Act.eval, Act.put]
        · intro v2 w7 hr hd
          have h6 : v2 6 = _ := hd 6 (by kernel_rfl)
          have h7 : v2 7 = _ := hd 7 (by kernel_rfl)
          exact yields_index (b := b2) (off := o2) (n := g.c.length) (c := vi) (i := i) (m := 2) rfl (by simp [Act.eval, Act.put, h6, h7]) (by simp [Act.eval, Act.put, h6, h7]) hlt Tryz.underlying31 (by intro w; simp [Tryz.sizeOf137])
        · intro v2 w7 hr hd
          have h8 : v2 8 = _ := hd 8 (by kernel_rfl)
          have c0 := (F0.out w7 hr.1)
          have c1 := (F1.out w7 hr.1)
          refine yields_run (u := .agg #[sV x.n, .int .i64 x.w]) (w' := w7) ?_ (Below.refl _ _) rfl
          unfold execOp
          simp [go_sem, Act.eval, Act.put, h8, c0, c1]
        · intro v2 w7 hr hd
          have h4 : v2 4 = _ := hd 4 (by kernel_rfl)
          have h9 : v2 9 = _ := hd 9 (by kernel_rfl)
          refine yields_run (u := .bool false) (w' := w7) ?_ (Below.refl _ _) rfl
          unfold execOp
          simp [go_sem, Act.eval, Act.put, h4, h9, nq]
        · intro v2 w7 hr hv
          have hb9 : v2 10 = .bool false := hv 10 (by decide)
          have hR := Lib.hid hr
          rw [hfin]
          generalize v2 10 = v5 at hb9 ⊢
          subst hb9
          clear hfin hv hr
          go_wp2_with fail
          go_roundw
          case rel => exact ⟨i + 1, hlt, by go_num, Lib.hid (Br.out.trans (hR.out.1.mono Br.out.size))⟩
          case measure => simp [intOf]; omega
    subst hin
    have hlt : ¬ ((g.c.length : Int) < g.c.length) := by omega
    go_upto_region 8 with fail
    clear k0 hlt
    go_wp2_with fail
    go_loopw [6] (fun a wr => ∃ i : Nat, i ≤ g.l.length ∧ a = .int .i64 i ∧ Hid (Below w3.heap.size w3 wr)) (fun a _ => (g.l.length - intOf a).toNat)
    case atStart => exact ⟨0, by omega, rfl, Lib.hid Br.out⟩
    case round =>
      obtain ⟨i, hi, rfl, Br⟩ := hrel
      have k0 : wr.cell? ⟨g1, 1, none⟩ = some (.slice ub g.l.length uj) := G1.out wr Br.out 1
      by_cases hin : i = g.l.length
      case neg =>
        have hlt : i < g.l.length := by omega
        obtain ⟨x, hx⟩ : ∃ x, g.l[i]? = some x := ⟨g.l[i], List.getElem?_eq_getElem hlt⟩
        obtain ⟨b1, o1, hA, hb1, c0, c1, c2⟩ := at_lo HU.out.l hx
        change ub = _ at hA
        obtain ⟨b2, o2, hB, hb2, d0, d1, d2⟩ := at_lo HV.out.l hx
        change vb = _ at hB
        subst hA
        subst hB
        have E0 : ∀ w7, Below wr.heap.size wr w7 → w7.cell? ⟨b1, o1 + i * 3, none⟩ = some (sV x.n) := fun w7 h7 => ((HW.out w7 (Br.out.trans (h7.mono Br.out.size))).cell (p := ⟨b1, o1 + i * 3, none⟩) hb1).trans c0
        have F0 : ∀ w7, Below wr.heap.size wr w7 → w7.cell? ⟨b2, o2 + i * 3, none⟩ = some (sV x.n) := fun w7 h7 => ((HW.out w7 (Br.out.trans (h7.mono Br.out.size))).cell (p := ⟨b2, o2 + i * 3, none⟩) hb2).trans d0
        replace E0 := Lib.hid E0
        replace F0 := Lib.hid F0
        have E1 : ∀ w7, Below wr.heap.size wr w7 → w7.cell? ⟨b1, o1 + i * 3 + 1, none⟩ = some (.int .i64 x.u) := fun w7 h7 => ((HW.out w7 (Br.out.trans (h7.mono Br.out.size))).cell (p := ⟨b1, o1 + i * 3 + 1, none⟩) hb1).trans c1
        have F1 : ∀ w7, Below wr.heap.size wr w7 → w7.cell? ⟨b2, o2 + i * 3 + 1, none⟩ = some (.int .i64 x.u) := fun w7 h7 => ((HW.out w7 (Br.out.trans (h7.mono Br.out.size))).cell (p := ⟨b2, o2 + i * 3 + 1, none⟩) hb2).trans d1
        replace E1 := Lib.hid E1
        replace F1 := Lib.hid F1
        have E2 : ∀ w7, Below wr.heap.size wr w7 → w7.cell? ⟨b1, o1 + i * 3 + 2, none⟩ = some (.int .i64 x.r) := fun w7 h7 => ((HW.out w7 (Br.out.trans (h7.mono Br.out.size))).cell (p := ⟨b1, o1 + i * 3 + 2, none⟩) hb1).trans c2
        have F2 : ∀ w7, Below wr.heap.size wr w7 → w7.cell? ⟨b2, o2 + i * 3 + 2, none⟩ = some (.int .i64 x.r) := fun w7 h7 => ((HW.out w7 (Br.out.trans (h7.mono Br.out.size))).cell (p := ⟨b2, o2 + i * 3 + 2, none⟩) hb2).trans d2
        replace E2 := Lib.hid E2
        replace F2 := Lib.hid F2
        have nq : ∀ w, (Op.equalIn 10000 139 (.agg #[sV x.n, .int .i64 x.u, .int .i64 x.r]) (.agg #[sV x.n, .int .i64 x.u, .int .i64 x.r])).run Tryz.prog w = .ok true w := fun w => eqLoop9 ⟨x.n.toArray⟩ x.u x.r w
        clear hx c0 d0 c1 d1 c2 d2 hb1 hb2
        go_upto_region 11 with fail
        clear k0
        refine region_full 115 [] [] (fun _ => false) (fun w7 => Below wr.heap.size wr w7 ∧ wr.heap.size ≤ w7.heap.size) ?hR ?r0 [pdOne 0 (Is (.pointer (some ⟨g1, 1, none⟩))), pdOne 1 (Is (.slice (some ⟨b1, o1, none⟩) g.l.length uj)), pdOne 2 (Is (.int .i64 i)), pdOne 3 (Is (.pointer (some ⟨b1, o1 + i * 3, none⟩))), pdOne 4 (Is (.agg #[sV x.n, .int .i64 x.u, .int .i64 x.r])), pdOne 5 (Is (.pointer (some ⟨g2, 1, none⟩))), pdOne 6 (Is (.slice (some ⟨b2, o2, none⟩) g.l.length vj)), pdOne 7 (Is (.int .i64 i)), pdOne 8 (Is (.pointer (some ⟨b2, o2 + i * 3, none⟩))), pdOne 9 (Is (.agg #[sV x.n, .int .i64 x.u, .int .i64 x.r])), pdOne 10 (Is (.bool false))] (fun _ _ => True) (by kernel_rfl) rfl (by kernel_rfl) (by kernel_rfl) (by kernel_rfl) (by kernel_rfl) ?keep ?hO ?h0 ?tell
        case hR => exact fun wa wb hb ⟨h1, h2⟩ => ⟨h1.trans (hb.mono h1.size), Nat.le_trans h2 hb.size⟩
        case r0 => exact ⟨Below.refl _ _, Nat.le_refl _⟩
        case keep => exact ⟨keep_one (keeps_is _), keep_one (keeps_is _), keep_one (keeps_is _), keep_one (keeps_is _), keep_one (keeps_is _), keep_one (keeps_is _), keep_one (keeps_is _), keep_one (keeps_is _), keep_one (keeps_is _), keep_one (keeps_is _), keep_one (keeps_is _), trivial⟩
        case hO => exact fun _ _ _ _ h => h
        case h0 => exact fun _ _ => trivial
        case tell =>
          intro fin hfin
          simp [lexPut, Act.put] at hfin
          simp only [TellF]
          refine ⟨⟨?_, ?_, ?_, ?_, ?_, ?_, ?_, ?_, ?_, ?_, ?_, trivial⟩, ?_⟩
          · intro v2 w7 hr hd
            refine yields_run (u := .pointer (some ⟨g1, 1, none⟩)) (w' := w7) ?_ (Below.refl _ _) rfl
            unfold execOp
            simp [go_sem, Act.eval]
          · intro v2 w7 hr hd
            have h0 : v2 0 = _ := hd 0 (by kernel_rfl)
            have c0 := (G1.out w7 (Br.out.trans (hr.1.mono Br.out.size)) 1)
            refine yields_run (u := .slice (some ⟨b1, o1, none⟩) g.l.length uj) (w' := w7) ?_ (Below.refl _ _) rfl
            unfold execOp
            simp [go_sem, Act.eval, Act.put, h0, c0]
          · intro v2 w7 hr hd
            refine yields_run (u := .int .i64 i) (w' := w7) ?_ (Below.refl _ _) rfl
            unfold execOp
            simp [go_sem, Act.eval, Act.put]
          · intro v2 w7 hr hd
            have h1 : v2 1 = _ := hd 1 (by kernel_rfl)
            have h2 : v2 2 = _ := hd 2 (by kernel_rfl)
            exact yields_index (b := b1) (off := o1) (n := g.l.length) (c := uj) (i := i) (m := 3) rfl (by simp [Act.eval, Act.put, h1, h2]) (by simp [Act.eval, Act.put, h1, h2]) hlt Tryz.underlying32 (by intro w; simp [Tryz.sizeOf139])
          · intro v2 w7 hr hd
            have h3 : v2 3 = _ := hd 3 (by kernel_rfl)
            have c0 := (E0.out w7 hr.1)
            have c1 := (E1.out w7 hr.1)
            have c2 := (E2.out w7 hr.1)
            refine yields_run (u := .agg #[sV x.n, .int .i64 x.u, .int .i64 x.r]) (w' := w7) ?_ (Below.refl _ _) rfl
            unfold execOp
            simp [go_sem, Act.eval, Act.put, h3, c0, c1, c2]
          · intro v2 w7 hr hd
            refine yields_run (u := .pointer (some ⟨g2, 1, none⟩)) (w' := w7) ?_ (Below.refl _ _) rfl
            unfold execOp
            simp [go_sem, Act.eval, Act.put]
          · intro v2 w7 hr hd
            have h5 : v2 5 = _ := hd 5 (by kernel_rfl)
            have c0 := (G2.out w7 (Br.out.trans (hr.1.mono Br.out.size)) 1)
            refine yields_run (u := .slice (some ⟨b2, o2, none⟩) g.l.length vj) (w' := w7) ?_ (Below.refl _ _) rfl
            unfold execOp
            simp [go_sem, Act.eval, Act.put, h5, c0]
          · intro v2 w7 hr hd
            refine yields_run (u := .int .i64 i) (w' := w7) ?_ (Below.refl _ _) rfl
            unfold execOp
            simp [go_sem, Act.eval, Act.put]
          · intro v2 w7 hr hd
            have h6 : v2 6 = _ := hd 6 (by kernel_rfl)
            have h7 : v2 7 = _ := hd 7 (by kernel_rfl)
            exact yields_index (b := b2) (off := o2) (n := g.l.length) (c := vj) (i := i) (m := 3) rfl (by simp [Act.eval, Act.put, h6, h7]) (by simp [Act.eval, Act.put, h6, h7]) hlt Tryz.underlying32 (by intro w; simp [Tryz.sizeOf139])
          · intro v2 w7 hr hd
            have h8 : v2 8 = _ := hd 8 (by kernel_rfl)
            have c0 := (F0.out w7 hr.1)
            have c1 := (F1.out w7 hr.1)
            have c2 := (F2.out w7 hr.1)
            refine yields_run (u := .agg #[sV x.n, .int .i64 x.u, .int .i64 x.r]) (w' := w7) ?_ (Below.refl _ _) rfl
            unfold execOp
            simp [go_sem, Act.eval, Act.put, h8, c0, c1, c2]
          · intro v2 w7 hr hd
            have h4 : v2 4 = _ := hd 4 (by kernel_rfl)
            have h9 : v2 9 = _ := hd 9 (by kernel_rfl)
            refine yields_run (u := .bool false) (w' := w7) ?_ (Below.refl _ _) rfl
            unfold execOp
            simp [go_sem, Act.eval, Act.put, h4, h9, nq]
          · intro v2 w7 hr hv
            have hb9 : v2 10 = .bool false := hv 10 (by decide)
            have hR := Lib.hid hr
            rw [hfin]
            generalize v2 10 = v5 at hb9 ⊢
            subst hb9
            clear hfin hv hr
            go_wp2_with fail
            go_roundw
            case rel => exact ⟨i + 1, hlt, by go_num, Lib.hid (Br.out.trans (hR.out.1.mono Br.out.size))⟩
            case measure => simp [intOf]; omega
      subst hin
      have hlt : ¬ ((g.l.length : Int) < g.l.length) := by omega
      go_upto_region 13 with fail
      clear k0 hlt
      go_wp2_with fail
      go_loopw [7] (fun a wr => ∃ i : Nat, i ≤ g.o.length ∧ a = .int .i64 i ∧ Hid (Below w3.heap.size w3 wr)) (fun a _ => (g.o.length - intOf a).toNat)
      case atStart => exact ⟨0, by omega, rfl, Lib.hid Br.out⟩
      case round =>
        obtain ⟨i, hi, rfl, Br⟩ := hrel
        have k0 : wr.cell? ⟨g1, 2, none⟩ = some (.slice ud g.o.length uk) := G1.out wr Br.out 2
        by_cases hin : i = g.o.length
        case neg =>
          have hlt : i < g.o.length := by omega
          obtain ⟨x, hx⟩ : ∃ x, g.o[i]? = some x := ⟨g.o[i], List.getElem?_eq_getElem hlt⟩
          obtain ⟨b1, o1, hA, hb1, c0, c1, c2, c3, c4, c5⟩ := at_oq HU.out.o hx
          change ud = _ at hA
          obtain ⟨b2, o2, hB, hb2, d0, d1, d2, d3, d4, d5⟩ := at_oq HV.out.o hx
          change vd = _ at hB
          subst hA
          subst hB
          have E0 : ∀ w7, Below wr.heap.size wr w7 → w7.cell? ⟨b1, o1 + i * 6, none⟩ = some (sV x.n) := fun w7 h7 => ((HW.out w7 (Br.out.trans (h7.mono Br.out.size))).cell (p := ⟨b1, o1 + i * 6, none⟩) hb1).trans c0
          have F0 : ∀ w7, Below wr.heap.size wr w7 → w7.cell? ⟨b2, o2 + i * 6, none⟩ = some (sV x.n) := fun w7 h7 => ((HW.out w7 (Br.out.trans (h7.mono Br.out.size))).cell (p := ⟨b2, o2 + i * 6, none⟩) hb2).trans d0
          replace E0 := Lib.hid E0
          replace F0 := Lib.hid F0
          have E1 : ∀ w7, Below wr.heap.size wr w7 → w7.cell? ⟨b1, o1 + i * 6 + 1, none⟩ = some (.int .i64 x.k) := fun w7 h7 => ((HW.out w7 (Br.out.trans (h7.mono Br.out.size))).cell (p := ⟨b1, o1 + i * 6 + 1, none⟩) hb1).trans c1
          have F1 : ∀ w7, Below wr.heap.size wr w7 → w7.cell? ⟨b2, o2 + i * 6 + 1, none⟩ = some (.int .i64 x.k) := fun w7 h7 => ((HW.out w7 (Br.out.trans (h7.mono Br.out.size))).cell (p := ⟨b2, o2 + i * 6 + 1, none⟩) hb2).trans d1
          replace E1 := Lib.hid E1
          replace F1 := Lib.hid F1
          have E2 : ∀ w7, Below wr.heap.size wr w7 → w7.cell? ⟨b1, o1 + i * 6 + 2, none⟩ = some (.int .i64 x.l) := fun w7 h7 => ((HW.out w7 (Br.out.trans (h7.mono Br.out.size))).cell (p := ⟨b1, o1 + i * 6 + 2, none⟩) hb1).trans c2
          have F2 : ∀ w7, Below wr.heap.size wr w7 → w7.cell? ⟨b2, o2 + i * 6 + 2, none⟩ = some (.int .i64 x.l) := fun w7 h7 => ((HW.out w7 (Br.out.trans (h7.mono Br.out.size))).cell (p := ⟨b2, o2 + i * 6 + 2, none⟩) hb2).trans d2
          replace E2 := Lib.hid E2
          replace F2 := Lib.hid F2
          have E3 : ∀ w7, Below wr.heap.size wr w7 → w7.cell? ⟨b1, o1 + i * 6 + 3, none⟩ = some (.int .i64 x.a) := fun w7 h7 => ((HW.out w7 (Br.out.trans (h7.mono Br.out.size))).cell (p := ⟨b1, o1 + i * 6 + 3, none⟩) hb1).trans c3
          have F3 : ∀ w7, Below wr.heap.size wr w7 → w7.cell? ⟨b2, o2 + i * 6 + 3, none⟩ = some (.int .i64 x.a) := fun w7 h7 => ((HW.out w7 (Br.out.trans (h7.mono Br.out.size))).cell (p := ⟨b2, o2 + i * 6 + 3, none⟩) hb2).trans d3
          replace E3 := Lib.hid E3
          replace F3 := Lib.hid F3
          have E4 : ∀ w7, Below wr.heap.size wr w7 → w7.cell? ⟨b1, o1 + i * 6 + 4, none⟩ = some (.int .i64 x.x) := fun w7 h7 => ((HW.out w7 (Br.out.trans (h7.mono Br.out.size))).cell (p := ⟨b1, o1 + i * 6 + 4, none⟩) hb1).trans c4
          have F4 : ∀ w7, Below wr.heap.size wr w7 → w7.cell? ⟨b2, o2 + i * 6 + 4, none⟩ = some (.int .i64 x.x) := fun w7 h7 => ((HW.out w7 (Br.out.trans (h7.mono Br.out.size))).cell (p := ⟨b2, o2 + i * 6 + 4, none⟩) hb2).trans d4
          replace E4 := Lib.hid E4
          replace F4 := Lib.hid F4
          have E5 : ∀ w7, Below wr.heap.size wr w7 → w7.cell? ⟨b1, o1 + i * 6 + 5, none⟩ = some (.int .i64 x.y) := fun w7 h7 => ((HW.out w7 (Br.out.trans (h7.mono Br.out.size))).cell (p := ⟨b1, o1 + i * 6 + 5, none⟩) hb1).trans c5
          have F5 : ∀ w7, Below wr.heap.size wr w7 → w7.cell? ⟨b2, o2 + i * 6 + 5, none⟩ = some (.int .i64 x.y) := fun w7 h7 => ((HW.out w7 (Br.out.trans (h7.mono Br.out.size))).cell (p := ⟨b2, o2 + i * 6 + 5, none⟩) hb2).trans d5
          replace E5 := Lib.hid E5
          replace F5 := Lib.hid F5
          have nq : ∀ w, (Op.equalIn 10000 141 (.agg #[sV x.n, .int .i64 x.k, .int .i64 x.l, .int .i64 x.a, .int .i64 x.x, .int .i64 x.y]) (.agg #[sV x.n, .int .i64 x.k, .int .i64 x.l, .int .i64 x.a, .int .i64 x.x, .int .i64 x.y])).run Tryz.prog w = .ok true w := fun w => eqOp9 ⟨x.n.toArray⟩ x.k x.l x.a x.x x.y w
          clear hx c0 d0 c1 d1 c2 d2 c3 d3 c4 d4 c5 d5 hb1 hb2
          go_upto_region 16 with fail
          clear k0
          refine region_full 115 [] [] (fun _ => false) (fun w7 => Below wr.heap.size wr w7 ∧ wr.heap.size ≤ w7.heap.size) ?hR ?r0 [pdOne 0 (Is (.pointer (some ⟨g1, 2, none⟩))), pdOne 1 (Is (.slice (some ⟨b1, o1, none⟩) g.o.length uk)), pdOne 2 (Is (.int .i64 i)), pdOne 3 (Is (.pointer (some ⟨b1, o1 + i * 6, none⟩))), pdOne 4 (Is (.agg #[sV x.n, .int .i64 x.k, .int .i64 x.l, .int .i64 x.a, .int .i64 x.x, .int .i64 x.y])), pdOne 5 (Is (.pointer (some ⟨g2, 2, none⟩))), pdOne 6 (Is (.slice (some ⟨b2, o2, none⟩) g.o.length vk)), pdOne 7 (Is (.int .i64 i)), pdOne 8 (Is (.pointer (some ⟨b2, o2 + i * 6, none⟩))), pdOne 9 (Is (.agg #[sV x.n, .int .i64 x.k, .int .i64 x.l, .int .i64 x.a, .int .i64 x.x, .int .i64 x.y])), pdOne 10 (Is (.bool false))] (fun _ _ => True) (by kernel_rfl) rfl (by kernel_rfl) (by kernel_rfl) (by kernel_rfl) (by kernel_rfl) ?keep ?hO ?h0 ?tell
          case hR => exact fun wa wb hb ⟨h1, h2⟩ => ⟨h1.trans (hb.mono h1.size), Nat.le_trans h2 hb.size⟩
          case r0 => exact ⟨Below.refl _ _, Nat.le_refl _⟩
          case keep => exact ⟨keep_one (keeps_is _), keep_one (keeps_is _), keep_one (keeps_is _), keep_one (keeps_is _), keep_one (keeps_is _), keep_one (keeps_is _), keep_one (keeps_is _), keep_one (keeps_is _), keep_one (keeps_is _), keep_one (keeps_is _), keep_one (keeps_is _), trivial⟩
          case hO => exact fun _ _ _ _ h => h
          case h0 => exact fun _ _ => trivial
          case tell =>
            intro fin hfin
            simp [lexPut, Act.put] at hfin
            simp only [TellF]
            refine ⟨⟨?_, ?_, ?_, ?_, ?_, ?_, ?_, ?_, ?_, ?_, ?_, trivial⟩, ?_⟩
            · intro v2 w7 hr hd
              refine yields_run (u := .pointer (some ⟨g1, 2, none⟩)) (w' := w7) ?_ (Below.refl _ _) rfl
              unfold execOp
              simp [go_sem, Act.eval]
            · intro v2 w7 hr hd
              have h0 : v2 0 = _ := hd 0 (by kernel_rfl)
              have c0 := (G1.out w7 (Br.out.trans (hr.1.mono Br.out.size)) 2)
              refine yields_run (u := .slice (some ⟨b1, o1, none⟩) g.o.length uk) (w' := w7) ?_ (Below.refl _ _) rfl
              unfold execOp
              simp [go_sem, Act.eval, Act.put, h0, c0]
            · intro v2 w7 hr hd
              refine yields_run (u := .int .i64 i) (w' := w7) ?_ (Below.refl _ _) rfl
              unfold execOp
              simp [go_sem, Act.eval, Act.put]
            · intro v2 w7 hr hd
              have h1 : v2 1 = _ := hd 1 (by kernel_rfl)
              have h2 : v2 2 = _ := hd 2 (by kernel_rfl)
              exact yields_index (b := b1) (off := o1) (n := g.o.length) (c := uk) (i := i) (m := 6) rfl (by simp [Act.eval, Act.put, h1, h2]) (by simp [Act.eval, Act.put, h1, h2]) hlt Tryz.underlying33 (by intro w; simp [Tryz.sizeOf141])
            · intro v2 w7 hr hd
              have h3 : v2 3 = _ := hd 3 (by kernel_rfl)
              have c0 := (E0.out w7 hr.1)
              have c1 := (E1.out w7 hr.1)
              have c2 := (E2.out w7 hr.1)
              have c3 := (E3.out w7 hr.1)
              have c4 := (E4.out w7 hr.1)
              have c5 := (E5.out w7 hr.1)
              refine yields_run (u := .agg #[sV x.n, .int .i64 x.k, .int .i64 x.l, .int .i64 x.a, .int .i64 x.x, .int .i64 x.y]) (w' := w7) ?_ (Below.refl _ _) rfl
              unfold execOp
              simp [go_sem, Act.eval, Act.put, h3, c0, c1, c2, c3, c4, c5]
            · intro v2 w7 hr hd
              refine yields_run (u := .pointer (some ⟨g2, 2, none⟩)) (w' := w7) ?_ (Below.refl _ _) rfl
              unfold execOp
              simp [go_sem, Act.eval, Act.put]
            · intro v2 w7 hr hd
              have h5 : v2 5 = _ := hd 5 (by kernel_rfl)
              have c0 := (G2.out w7 (Br.out.trans (hr.1.mono Br.out.size)) 2)
              refine yields_run (u := .slice (some ⟨b2, o2, none⟩) g.o.length vk) (w' := w7) ?_ (Below.refl _ _) rfl
              unfold execOp
              simp [go_sem, Act.eval, Act.put, h5, c0]
            · intro v2 w7 hr hd
              refine yields_run (u := .int .i64 i) (w' := w7) ?_ (Below.refl _ _) rfl
              unfold execOp
              simp [go_sem, Act.eval, Act.put]
            · intro v2 w7 hr hd
              have h6 : v2 6 = _ := hd 6 (by kernel_rfl)
              have h7 : v2 7 = _ := hd 7 (by kernel_rfl)
              exact yields_index (b := b2) (off := o2) (n := g.o.length) (c := vk) (i := i) (m := 6) rfl (by simp [Act.eval, Act.put, h6, h7]) (by simp [Act.eval, Act.put, h6, h7]) hlt Tryz.underlying33 (by intro w; simp [Tryz.sizeOf141])
            · intro v2 w7 hr hd
              have h8 : v2 8 = _ := hd 8 (by kernel_rfl)
              have c0 := (F0.out w7 hr.1)
              have c1 := (F1.out w7 hr.1)
              have c2 := (F2.out w7 hr.1)
              have c3 := (F3.out w7 hr.1)
              have c4 := (F4.out w7 hr.1)
              have c5 := (F5.out w7 hr.1)
              refine yields_run (u := .agg #[sV x.n, .int .i64 x.k, .int .i64 x.l, .int .i64 x.a, .int .i64 x.x, .int .i64 x.y]) (w' := w7) ?_ (Below.refl _ _) rfl
              unfold execOp
              simp [go_sem, Act.eval, Act.put, h8, c0, c1, c2, c3, c4, c5]
            · intro v2 w7 hr hd
              have h4 : v2 4 = _ := hd 4 (by kernel_rfl)
              have h9 : v2 9 = _ := hd 9 (by kernel_rfl)
              refine yields_run (u := .bool false) (w' := w7) ?_ (Below.refl _ _) rfl
              unfold execOp
              simp [go_sem, Act.eval, Act.put, h4, h9, nq]
            · intro v2 w7 hr hv
              have hb9 : v2 10 = .bool false := hv 10 (by decide)
              have hR := Lib.hid hr
              rw [hfin]
              generalize v2 10 = v5 at hb9 ⊢
              subst hb9
              clear hfin hv hr
              go_wp2_with fail
              go_roundw
              case rel => exact ⟨i + 1, hlt, by go_num, Lib.hid (Br.out.trans (hR.out.1.mono Br.out.size))⟩
              case measure => simp [intOf]; omega
        subst hin
        have hlt : ¬ ((g.o.length : Int) < g.o.length) := by omega
        go_upto_region 18 with fail
        clear k0 hlt
        go_wp2_with fail
        go_loopw [8] (fun a wr => ∃ i : Nat, i ≤ g.h.length ∧ a = .int .i64 i ∧ Hid (Below w3.heap.size w3 wr)) (fun a _ => (g.h.length - intOf a).toNat)
        case atStart => exact ⟨0, by omega, rfl, Lib.hid Br.out⟩
        case round =>
          obtain ⟨i, hi, rfl, Br⟩ := hrel
          have k0 : wr.cell? ⟨g1, 3, none⟩ = some (.slice ue g.h.length um) := G1.out wr Br.out 3
          by_cases hin : i = g.h.length
          case neg =>
            have hlt : i < g.h.length := by omega
            obtain ⟨x, hx⟩ : ∃ x, g.h[i]? = some x := ⟨g.h[i], List.getElem?_eq_getElem hlt⟩
            obtain ⟨b1, o1, hA, hb1, c0, c1⟩ := at_ch HU.out.h hx
            change ue = _ at hA
            obtain ⟨b2, o2, hB, hb2, d0, d1⟩ := at_ch HV.out.h hx
            change ve = _ at hB
            subst hA
            subst hB
            have E0 : ∀ w7, Below wr.heap.size wr w7 → w7.cell? ⟨b1, o1 + i * 2, none⟩ = some (.int .i64 x.f) := fun w7 h7 => ((HW.out w7 (Br.out.trans (h7.mono Br.out.size))).cell (p := ⟨b1, o1 + i * 2, none⟩) hb1).trans c0
            have F0 : ∀ w7, Below wr.heap.size wr w7 → w7.cell? ⟨b2, o2 + i * 2, none⟩ = some (.int .i64 x.f) := fun w7 h7 => ((HW.out w7 (Br.out.trans (h7.mono Br.out.size))).cell (p := ⟨b2, o2 + i * 2, none⟩) hb2).trans d0
            replace E0 := Lib.hid E0
            replace F0 := Lib.hid F0
            have E1 : ∀ w7, Below wr.heap.size wr w7 → w7.cell? ⟨b1, o1 + i * 2 + 1, none⟩ = some (.int .i64 x.t) := fun w7 h7 => ((HW.out w7 (Br.out.trans (h7.mono Br.out.size))).cell (p := ⟨b1, o1 + i * 2 + 1, none⟩) hb1).trans c1
            have F1 : ∀ w7, Below wr.heap.size wr w7 → w7.cell? ⟨b2, o2 + i * 2 + 1, none⟩ = some (.int .i64 x.t) := fun w7 h7 => ((HW.out w7 (Br.out.trans (h7.mono Br.out.size))).cell (p := ⟨b2, o2 + i * 2 + 1, none⟩) hb2).trans d1
            replace E1 := Lib.hid E1
            replace F1 := Lib.hid F1
            have nq : ∀ w, (Op.equalIn 10000 142 (.agg #[.int .i64 x.f, .int .i64 x.t]) (.agg #[.int .i64 x.f, .int .i64 x.t])).run Tryz.prog w = .ok true w := fun w => eqChannel9 x.f x.t w
            clear hx c0 d0 c1 d1 hb1 hb2
            go_upto_region 21 with fail
            clear k0
            refine region_full 115 [] [] (fun _ => false) (fun w7 => Below wr.heap.size wr w7 ∧ wr.heap.size ≤ w7.heap.size) ?hR ?r0 [pdOne 0 (Is (.pointer (some ⟨g1, 3, none⟩))), pdOne 1 (Is (.slice (some ⟨b1, o1, none⟩) g.h.length um)), pdOne 2 (Is (.int .i64 i)), pdOne 3 (Is (.pointer (some ⟨b1, o1 + i * 2, none⟩))), pdOne 4 (Is (.agg #[.int .i64 x.f, .int .i64 x.t])), pdOne 5 (Is (.pointer (some ⟨g2, 3, none⟩))), pdOne 6 (Is (.slice (some ⟨b2, o2, none⟩) g.h.length vm)), pdOne 7 (Is (.int .i64 i)), pdOne 8 (Is (.pointer (some ⟨b2, o2 + i * 2, none⟩))), pdOne 9 (Is (.agg #[.int .i64 x.f, .int .i64 x.t])), pdOne 10 (Is (.bool false))] (fun _ _ => True) (by kernel_rfl) rfl (by kernel_rfl) (by kernel_rfl) (by kernel_rfl) (by kernel_rfl) ?keep ?hO ?h0 ?tell
            case hR => exact fun wa wb hb ⟨h1, h2⟩ => ⟨h1.trans (hb.mono h1.size), Nat.le_trans h2 hb.size⟩
            case r0 => exact ⟨Below.refl _ _, Nat.le_refl _⟩
            case keep => exact ⟨keep_one (keeps_is _), keep_one (keeps_is _), keep_one (keeps_is _), keep_one (keeps_is _), keep_one (keeps_is _), keep_one (keeps_is _), keep_one (keeps_is _), keep_one (keeps_is _), keep_one (keeps_is _), keep_one (keeps_is _), keep_one (keeps_is _), trivial⟩
            case hO => exact fun _ _ _ _ h => h
            case h0 => exact fun _ _ => trivial
            case tell =>
              intro fin hfin
              simp [lexPut, Act.put] at hfin
              simp only [TellF]
              refine ⟨⟨?_, ?_, ?_, ?_, ?_, ?_, ?_, ?_, ?_, ?_, ?_, trivial⟩, ?_⟩
              · intro v2 w7 hr hd
                refine yields_run (u := .pointer (some ⟨g1, 3, none⟩)) (w' := w7) ?_ (Below.refl _ _) rfl
                unfold execOp
                simp [go_sem, Act.eval]
              · intro v2 w7 hr hd
                have h0 : v2 0 = _ := hd 0 (by kernel_rfl)
                have c0 := (G1.out w7 (Br.out.trans (hr.1.mono Br.out.size)) 3)
                refine yields_run (u := .slice (some ⟨b1, o1, none⟩) g.h.length um) (w' := w7) ?_ (Below.refl _ _) rfl
                unfold execOp
                simp [go_sem, Act.eval, Act.put, h0, c0]
              · intro v2 w7 hr hd
                refine yields_run (u := .int .i64 i) (w' := w7) ?_ (Below.refl _ _) rfl
                unfold execOp
                simp [go_sem, Act.eval, Act.put]
              · intro v2 w7 hr hd
                have h1 : v2 1 = _ := hd 1 (by kernel_rfl)
                have h2 : v2 2 = _ := hd 2 (by kernel_rfl)
                exact yields_index (b := b1) (off := o1) (n := g.h.length) (c := um) (i := i) (m := 2) rfl (by simp [Act.eval, Act.put, h1, h2]) (by simp [Act.eval, Act.put, h1, h2]) hlt Tryz.underlying34 (by intro w; simp [Tryz.sizeOf142])
              · intro v2 w7 hr hd
                have h3 : v2 3 = _ := hd 3 (by kernel_rfl)
                have c0 := (E0.out w7 hr.1)
                have c1 := (E1.out w7 hr.1)
                refine yields_run (u := .agg #[.int .i64 x.f, .int .i64 x.t]) (w' := w7) ?_ (Below.refl _ _) rfl
                unfold execOp
                simp [go_sem, Act.eval, Act.put, h3, c0, c1]
              · intro v2 w7 hr hd
                refine yields_run (u := .pointer (some ⟨g2, 3, none⟩)) (w' := w7) ?_ (Below.refl _ _) rfl
                unfold execOp
                simp [go_sem, Act.eval, Act.put]
              · intro v2 w7 hr hd
                have h5 : v2 5 = _ := hd 5 (by kernel_rfl)
                have c0 := (G2.out w7 (Br.out.trans (hr.1.mono Br.out.size)) 3)
                refine yields_run (u := .slice (some ⟨b2, o2, none⟩) g.h.length vm) (w' := w7) ?_ (Below.refl _ _) rfl
                unfold execOp
                simp [go_sem, Act.eval, Act.put, h5, c0]
              · intro v2 w7 hr hd
                refine yields_run (u := .int .i64 i) (w' := w7) ?_ (Below.refl _ _) rfl
                unfold execOp
                simp [go_sem, Act.eval, Act.put]
              · intro v2 w7 hr hd
                have h6 : v2 6 = _ := hd 6 (by kernel_rfl)
                have h7 : v2 7 = _ := hd 7 (by kernel_rfl)
                exact yields_index (b := b2) (off := o2) (n := g.h.length) (c := vm) (i := i) (m := 2) rfl (by simp [Act.eval, Act.put, h6, h7]) (by simp [Act.eval, Act.put, h6, h7]) hlt Tryz.underlying34 (by intro w; simp [Tryz.sizeOf142])
              · intro v2 w7 hr hd
                have h8 : v2 8 = _ := hd 8 (by kernel_rfl)
                have c0 := (F0.out w7 hr.1)
                have c1 := (F1.out w7 hr.1)
                refine yields_run (u := .agg #[.int .i64 x.f, .int .i64 x.t]) (w' := w7) ?_ (Below.refl _ _) rfl
                unfold execOp
                simp [go_sem, Act.eval, Act.put, h8, c0, c1]
              · intro v2 w7 hr hd
                have h4 : v2 4 = _ := hd 4 (by kernel_rfl)
                have h9 : v2 9 = _ := hd 9 (by kernel_rfl)
                refine yields_run (u := .bool false) (w' := w7) ?_ (Below.refl _ _) rfl
                unfold execOp
                simp [go_sem, Act.eval, Act.put, h4, h9, nq]
              · intro v2 w7 hr hv
                have hb9 : v2 10 = .bool false := hv 10 (by decide)
                have hR := Lib.hid hr
                rw [hfin]
                generalize v2 10 = v5 at hb9 ⊢
                subst hb9
                clear hfin hv hr
                go_wp2_with fail
                go_roundw
                case rel => exact ⟨i + 1, hlt, by go_num, Lib.hid (Br.out.trans (hR.out.1.mono Br.out.size))⟩
                case measure => simp [intOf]; omega
          subst hin
          have hlt : ¬ ((g.h.length : Int) < g.h.length) := by omega
          go_wp2_with fail
          go_ret
          exact ⟨rfl, hgs.out ▸ HW.out _ Br.out⟩
end Go.Proofs.YtpblpjopinllcaaGreatDoor.graph
set_option linter.unusedSimpArgs false
set_option linter.unusedVariables false
namespace Go.Proofs.YtpblpjopinllcaaGreatDoor.graph
open Go.ChangeShapes Go.WideShapes Go.ChangeAt Go.RowKit
open Go.Proofs.YtpblpjopinllcaaGreatDoor.opened Go.Proofs.YtpblpjopinllcaaGreatDoor.block Go.Proofs.YtpblpjopinllcaaGreatDoor.words Go.Proofs.YtpblpjopinllcaaGreatDoor.region
def FrP (g : Gr) : Value → World → Prop := fun u w => ∃ v', u = gV v' g ∧ Lies4 w v' g
theorem keeps_frP (g : Gr) : Keeps (FrP g) := fun _ _ _ hb ⟨v', h1, h2⟩ => ⟨v', h1, h2.below hb⟩
theorem flat_le {α : Type} {L : List α} {f : α → Bs} {m n : Nat} (h : ∀ x ∈ L, (f x).length ≤ m) (hn : L.length ≤ n) : ((L.map f).flatten).length ≤ n * m := by
  rw [← upto_all]
  exact Nat.le_trans (upto_le h _) (Nat.mul_le_mul_right m hn)
theorem text_len {g : Gr} (h : checkE g = 0) (I : g.In) : (textG g).length ≤ 24600 := by
  obtain ⟨n1, n2, n3, n4, -, -⟩ := sizes_of (check_parts h).1
  have h1 := flat_le (cl_sp h I) n1
  have h2 := flat_le (lo_sp h I) n2
  have h3 := flat_le (oq_sp h I) n3
  have h4 := flat_le (ch_sp h) n4
  unfold textG
  rw [List.length_append, List.length_append, List.length_append]
  omega
theorem len100 {g : Gr} (h : checkE g = 0) : g.c.length ≤ 100000 ∧ g.l.length ≤ 100000 ∧ g.o.length ≤ 100000 ∧ g.h.length ≤ 100000 := by
  obtain ⟨n1, n2, n3, n4, -, -⟩ := sizes_of (check_parts h).1
  exact ⟨by omega, by omega, by omega, by omega⟩
theorem fit_check {v : Gv} {g : Gr} (R : Rooms v g) (P : PG 100000 g) : Fit v g := ⟨R.i, R.j, R.k, R.m, P.c, P.l, P.o⟩
set_option maxRecDepth 100000 in
set_option maxHeartbeats 8000000 in
theorem walkB (V : Gv) (g : Gr) (I : g.In) (s : Bs) (w : World) (hE : EnvG w) (h : Lies4 w V g) :
    Calls Tryz.prog 4 #[gV V g, sV s] w fun e w' => e = .returned (.bool true) ∧ Below w.heap.size w w' := by
  have GR := fun w1 (h1 : Lies4 w1 V g) => great_any V g w1 h1
  have TO := fun lc ll lo lh w1 (h1 : Lies4 w1 V g) => toG_any V g lc ll lo lh w1 h1
  have SM := fun v2 y1 y2 y3 y4 w1 (h1 : Lies4 w1 V g) (h2 : Lies4 w1 v2 g) => sameG_any v2 V g w1 h2 h1 y1 y2 y3 y4
  obtain ⟨va, vb, vd, ve, vi, vj, vk, vm⟩ := V
  have hgv : gV ⟨va, vb, vd, ve, vi, vj, vk, vm⟩ g = .agg #[.slice va g.c.length vi, .slice vb g.l.length vj, .slice vd g.o.length vk, .slice ve g.h.length vm] := rfl
  rw [hgv] at SM
  unfold gV at GR TO ⊢
  dsimp only at GR TO ⊢
  clear hgv
  replace GR := Lib.hid GR
  replace TO := Lib.hid TO
  replace SM := Lib.hid SM
  have E0 := Lib.hid hE
  have H0 := Lib.hid h
  have OG := Whole.fresh w 36 #[.slice va g.c.length vi, .slice vb g.l.length vj, .slice vd g.o.length vk, .slice ve g.h.length vm]
  have b1 := fresh1 w (.cells #[.slice va g.c.length vi, .slice vb g.l.length vj, .slice vd g.o.length vk, .slice ve g.h.length vm] 36)
  have hls : (⟨s.toArray⟩ : ByteArray).size = s.length := by show s.toArray.size = _; simp
  clear hE h
  go_enter Tryz.func4, Tryz.ntmps4
  go_upto_region 1 with fail
  change Code.wp _ _ _ _ (w.alloc (.cells #[.slice va g.c.length vi, .slice vb g.l.length vj, .slice vd g.o.length vk, .slice ve g.h.length vm] 36))
  generalize w.alloc (.cells #[.slice va g.c.length vi, .slice vb g.l.length vj, .slice vd g.o.length vk, .slice ve g.h.length vm] 36) = w3 at OG b1 ⊢
  have B3 := Lib.hid b1
  have OG3 := Lib.hid OG
  clear OG b1
  obtain ⟨gg, hgg⟩ : ∃ gg, w.heap.size = gg := ⟨_, rfl⟩
  rw [hgg] at OG3 ⊢
  have Hgg := Lib.hid hgg
  clear hgg
  have S3 : Hid (∀ W, Below w3.heap.size w3 W → Below w.heap.size w W ∧ EnvG W ∧ Lies4 W ⟨va, vb, vd, ve, vi, vj, vk, vm⟩ g) := Lib.hid fun W hW => ⟨then_below B3.out hW, E0.out.below (then_below B3.out hW), H0.out.below (then_below B3.out hW)⟩
  have K5 : Hid (∀ W, Below w3.heap.size w3 W → W.cell? ⟨gg, 0, none⟩ = some (.slice va g.c.length vi) ∧ W.cell? ⟨gg, 1, none⟩ = some (.slice vb g.l.length vj) ∧ W.cell? ⟨gg, 2, none⟩ = some (.slice vd g.o.length vk) ∧ W.cell? ⟨gg, 3, none⟩ = some (.slice ve g.h.length vm)) := Lib.hid fun W hW => ⟨(OG3.out.below hW OG3.out.inside).read 0, (OG3.out.below hW OG3.out.inside).read 1, (OG3.out.below hW OG3.out.inside).read 2, (OG3.out.below hW OG3.out.inside).read 3⟩
  clear OG3 B3 E0 H0
  have WK := Lib.hid (works9_any w3 (S3.out w3 (Below.refl _ _)).2.1)
  go_upto_region 3 with (go_at_call 19; refine WK.out.mono ?_; rintro e w4 ⟨rfl, b4⟩)
  have B4 := Lib.hid b4
  clear b4 WK
  obtain ⟨k0, k1, k2, k3⟩ := K5.out w4 B4.out
  have GR4 := Lib.hid (GR.out w4 (S3.out w4 B4.out).2.2)
  clear GR
  cases hS : greatB g with
  | true =>
    rw [hS] at GR4
    go_wp2_with (go_at_call 20; refine GR4.out.mono ?_; rintro e w5 ⟨rfl, b5⟩)
    go_ret
    exact ⟨rfl, (S3.out _ (then_below B4.out b5)).1⟩
  | false =>
    have SH := Lib.hid (great_small hS)
    rw [hS] at GR4
    clear hS
    by_cases hs8 : 8000 < s.length
    · go_wp2_with (go_at_call 20; refine GR4.out.mono ?_; rintro e w5 ⟨rfl, b5⟩)
      go_ret
      exact ⟨rfl, (S3.out _ (then_below B4.out b5)).1⟩
    obtain ⟨lc, ll, lo, lh, -, -, -⟩ := SH.out
    replace TO := Lib.hid (TO.out (by omega) (by omega) (by omega) (by omega))
    replace SM := Lib.hid (fun v2 => SM.out v2 (by omega) (by omega) (by omega) (by omega))
    have FF := Lib.hid (fun v2 w1 (h2 : Lies4 w1 v2 g) => fromG_any v2 g (by omega) (by omega) (by omega) (by omega) w1 h2)
    have PS := Lib.hid (fun W (hW : EnvG W) => parseP_any s (by omega) W hW.e hW.k)
    have hpg := parseV_pg ok_last s (by omega)
    have hok := fun h => parse_ok (ix := lastIx) (linesL s) 0 noG h
    have hbd := fun h => parse_bad (ix := lastIx) (linesL s) 0 noG h
    change (parseV lastIx s).2.2 = 0 → checkE (parseV lastIx s).1 = 0 ∧ (parseV lastIx s).2.1 = 0 at hok
    change (parseV lastIx s).2.2 ≠ 0 → (parseV lastIx s).1 = noG at hbd
    obtain ⟨gs, ns, es, hps⟩ : ∃ gs ns es, parseV lastIx s = (gs, ns, es) := ⟨_, _, _, rfl⟩
    rw [hps] at PS hpg hok hbd
    dsimp only at PS hpg hok hbd
    have HPG := Lib.hid hpg
    replace hok := Lib.hid hok
    replace hbd := Lib.hid hbd
    clear hps hpg lc ll lo lh
    have TX : Hid (∀ v', Rooms v' g → ∀ W, EnvG W → Lies4 W v' g → Calls Tryz.prog 21 #[gV v' g] W fun e w' => e = .returned (.tuple #[sV (textV g), .int .i64 (checkE g)]) ∧ Below W.heap.size W w') := Lib.hid fun v' R' W hW hL => text_any v' g (fit_small R' SH.out) I W hL hW.k hW.e.tab
    -- what is behind the first part, in any world
    have TAIL : Hid (∀ W, Below w3.heap.size w3 W → EnvG W) := Lib.hid fun W hW => (S3.out W hW).2.1
    go_upto_region 6 with (first
      | (go_at_call 21; refine (TX.out v6 R6 _ (S3.out _ B6.out).2.1 L6).mono ?_; rintro e w7 ⟨rfl, b7⟩; have B7 := Lib.hid (then_below B6.out b7); clear b7 L6 R6)
      | (go_at_call 22; refine (TO.out _ (S3.out _ B5.out).2.2).mono ?_; rintro e w6 ⟨v6, rfl, L6, R6, b6⟩; have B6 := Lib.hid (then_below B5.out b6); clear b6)
      | (go_at_call 20; refine GR4.out.mono ?_; rintro e w5 ⟨rfl, b5⟩; have B5 := Lib.hid (then_below B4.out b5); obtain ⟨k0, k1, k2, k3⟩ := K5.out w5 B5.out; clear b5))
    clear k0 k1 k2 k3 B5 B6 B4 GR4 TX TO
    by_cases hc : checkE g = 0
    · have HCK := Lib.hid hc
      have hlen := text_len hc I
      have ht : textV g = textG g := by unfold textV; rw [if_pos hc]
      have PT : Hid (∀ W, EnvG W → Calls Tryz.prog 15 #[sV (textV g)] W fun e w' => ∃ v', e = .returned (.tuple #[gV v' g, .int .i64 0, .int .i64 0]) ∧ Lies4 w' v' g ∧ Rooms v' g ∧ Below W.heap.size W w') := Lib.hid fun W hW => by
        have h := parseP_any (textG g) (by omega) W hW.e hW.k
        rw [parse_text ok_last I hc] at h
        rw [ht]
        exact h
      rw [hc]
      clear hc hlen ht
      generalize textV g = tz at PT ⊢
      go_upto_region 8 with (go_at_call 15; refine (PT.out _ (TAIL.out _ B7.out)).mono ?_; rintro e w8' ⟨z, rfl, L8, -, b8⟩)
      have OZ := Whole.fresh w8' 27 #[.slice z.a g.c.length z.i, .slice z.b g.l.length z.j, .slice z.d g.o.length z.k, .slice z.e g.h.length z.m]
      have f8 := fresh1 w8' (.cells #[.slice z.a g.c.length z.i, .slice z.b g.l.length z.j, .slice z.d g.o.length z.k, .slice z.e g.h.length z.m] 27)
      change Code.wp _ _ _ _ (w8'.alloc (.cells #[.slice z.a g.c.length z.i, .slice z.b g.l.length z.j, .slice z.d g.o.length z.k, .slice z.e g.h.length z.m] 27))
      generalize w8'.alloc (.cells #[.slice z.a g.c.length z.i, .slice z.b g.l.length z.j, .slice z.d g.o.length z.k, .slice z.e g.h.length z.m] 27) = w9 at OZ f8 ⊢
      have B9 := Lib.hid (then_below B7.out (then_below b8 f8))
      have L9 := Lib.hid (L8.below f8)
      generalize w8'.heap.size = gz at OZ ⊢
      have OZ9 := Lib.hid OZ
      clear OZ f8 b8 L8 B7
      have SZ : Hid (∀ W, Below w9.heap.size w9 W → ∀ i, W.cell? ⟨gz, i, none⟩ = (#[.slice z.a g.c.length z.i, .slice z.b g.l.length z.j, .slice z.d g.o.length z.k, .slice z.e g.h.length z.m] : Array Value)[i]?) := Lib.hid fun W hW => (OZ9.out.below hW OZ9.out.inside).read
      have SGi : Hid (∀ W, Below w9.heap.size w9 W → ∀ i, i < 4 → W.cell? ⟨gg, i, none⟩ = (#[.slice va g.c.length vi, .slice vb g.l.length vj, .slice vd g.o.length vk, .slice ve g.h.length vm] : Array Value)[i]?) := Lib.hid fun W hW i hi => by
        obtain ⟨q0, q1, q2, q3⟩ := K5.out W (then_below B9.out hW)
        match i, hi with
        | 0, _ => exact q0
        | 1, _ => exact q1
        | 2, _ => exact q2
        | 3, _ => exact q3
      have LZ : Hid (∀ W, Below w9.heap.size w9 W → Lies4 W z g ∧ Lies4 W ⟨va, vb, vd, ve, vi, vj, vk, vm⟩ g) := Lib.hid fun W hW => ⟨L9.out.below hW, (S3.out W (then_below B9.out hW)).2.2⟩
      refine region_want 95 [Is (.int .i64 0), Is (.bool false), Is (.bool false), Is (.int .i64 0), Is (.bool false), Is (.bool false), Is (.bool false), Is (.agg #[.slice z.a g.c.length z.i, .slice z.b g.l.length z.j, .slice z.d g.o.length z.k, .slice z.e g.h.length z.m]), FrP g, Is (.agg #[.slice va g.c.length vi, .slice vb g.l.length vj, .slice vd g.o.length vk, .slice ve g.h.length vm]), Is (.bool true), Is (.bool false), Is (.bool false)] (by kernel_rfl) rfl (by kernel_rfl) ?_ ?_
      · exact ⟨keeps_is _, keeps_is _, keeps_is _, keeps_is _, keeps_is _, keeps_is _, keeps_is _, keeps_is _, keeps_frP g, keeps_is _, keeps_is _, keeps_is _, keeps_is _, trivial⟩
      · intro fin hfin
        simp [lexPut, Act.put] at hfin
        refine ⟨⟨?_, ?_, ?_, ?_, ?_, ?_, ?_, ?_, ?_, ?_, ?_, ?_, ?_, trivial⟩, ?_⟩
        · intro v w8 hb hd
          refine done_plain rfl (yields_run (u := .int .i64 0) (w' := w8) ?_ (Below.refl _ _) rfl)
          rw [hfin]
          unfold execOp
          simp [go_sem, Act.eval]
        · intro v w8 hb hd
          have h0 : v 0 = .int .i64 0 := hd 0 (by kernel_rfl)
          refine done_plain rfl (yields_run (u := .bool false) (w' := w8) ?_ (Below.refl _ _) rfl)
          rw [hfin]
          unfold execOp
          simp [go_sem, Act.eval, h0]
        · intro v w8 hb hd
          have h1 : v 1 = .bool false := hd 1 (by kernel_rfl)
          refine done_plain rfl (yields_run (u := .bool false) (w' := w8) ?_ (Below.refl _ _) rfl)
          rw [hfin]
          unfold execOp
          simp [go_sem, Act.eval, h1]
        · intro v w8 hb hd
          have g2 : v 2 = .bool false := hd 2 (by kernel_rfl)
          refine done_want 2 false rfl g2 (yields_run (u := .int .i64 0) (w' := w8) ?_ (Below.refl _ _) rfl)
          rw [hfin]
          unfold execOp
          simp [go_sem, Act.eval]
        · intro v w8 hb hd
          have g2 : v 2 = .bool false := hd 2 (by kernel_rfl)
          have h3 : v 3 = .int .i64 0 := hd 3 (by kernel_rfl)
          refine done_want 2 false rfl g2 (yields_run (u := .bool false) (w' := w8) ?_ (Below.refl _ _) rfl)
          rw [hfin]
          unfold execOp
          simp [go_sem, Act.eval, h3]
        · intro v w8 hb hd
          have h2 : v 2 = .bool false := hd 2 (by kernel_rfl)
          have h4 : v 4 = .bool false := hd 4 (by kernel_rfl)
          refine done_plain rfl (yields_run (u := .bool false) (w' := w8) ?_ (Below.refl _ _) rfl)
          rw [hfin]
          unfold execOp
          simp [go_sem, Act.eval, h2, h4]
        · intro v w8 hb hd
          have h5 : v 5 = .bool false := hd 5 (by kernel_rfl)
          refine done_plain rfl (yields_run (u := .bool false) (w' := w8) ?_ (Below.refl _ _) rfl)
          rw [hfin]
          unfold execOp
          simp [go_sem, Act.eval, h5]
        · intro v w8 hb hd
          have g6 : v 6 = .bool false := hd 6 (by kernel_rfl)
          have k0 := SZ.out w8 hb 0
          have k1 := SZ.out w8 hb 1
          have k2 := SZ.out w8 hb 2
          have k3 := SZ.out w8 hb 3
          refine done_want 6 false rfl g6 (yields_run (u := .agg #[.slice z.a g.c.length z.i, .slice z.b g.l.length z.j, .slice z.d g.o.length z.k, .slice z.e g.h.length z.m]) (w' := w8) ?_ (Below.refl _ _) rfl)
          rw [hfin]
          unfold execOp
          simp [go_sem, Act.eval, k0, k1, k2, k3]
        · intro v w8 hb hd
          have g6 : v 6 = .bool false := hd 6 (by kernel_rfl)
          have h7 : v 7 = .agg #[.slice z.a g.c.length z.i, .slice z.b g.l.length z.j, .slice z.d g.o.length z.k, .slice z.e g.h.length z.m] := hd 7 (by kernel_rfl)
          refine done_want 6 false rfl g6 (yields_call (f := 18) rfl (vs := #[.agg #[.slice z.a g.c.length z.i, .slice z.b g.l.length z.j, .slice z.d g.o.length z.k, .slice z.e g.h.length z.m]]) (by rw [hfin]; simp [Act.eval, h7]) rfl Tryz.func18 (by kernel_rfl) (by kernel_rfl) ?_)
          exact (FF.out z w8 (LZ.out w8 hb).1).mono fun e w' ⟨v', he, hl, _, hb'⟩ => ⟨_, he, hb', v', rfl, hl⟩
        · intro v w8 hb hd
          have g6 : v 6 = .bool false := hd 6 (by kernel_rfl)
          have k0 := SGi.out w8 hb 0 (by decide)
          have k1 := SGi.out w8 hb 1 (by decide)
          have k2 := SGi.out w8 hb 2 (by decide)
          have k3 := SGi.out w8 hb 3 (by decide)
          refine done_want 6 false rfl g6 (yields_run (u := .agg #[.slice va g.c.length vi, .slice vb g.l.length vj, .slice vd g.o.length vk, .slice ve g.h.length vm]) (w' := w8) ?_ (Below.refl _ _) rfl)
          rw [hfin]
          unfold execOp
          simp [go_sem, Act.eval, k0, k1, k2, k3]
        · intro v w8 hb hd
          have g6 : v 6 = .bool false := hd 6 (by kernel_rfl)
          have h9 : v 9 = .agg #[.slice va g.c.length vi, .slice vb g.l.length vj, .slice vd g.o.length vk, .slice ve g.h.length vm] := hd 9 (by kernel_rfl)
          obtain ⟨u8, h8, l8⟩ : (FrP g) (v 8) w8 := hd 8 (by kernel_rfl)
          refine done_want 6 false rfl g6 (yields_call (f := 17) rfl (vs := #[gV u8 g, .agg #[.slice va g.c.length vi, .slice vb g.l.length vj, .slice vd g.o.length vk, .slice ve g.h.length vm]]) (by rw [hfin]; simp [Act.eval, h9, h8]) rfl Tryz.func17 (by kernel_rfl) (by kernel_rfl) ?_)
          exact (SM.out u8 w8 (LZ.out w8 hb).2 l8).mono fun e w' ⟨he, hb'⟩ => ⟨_, he, hb', rfl⟩
        · intro v w8 hb hd
          have g6 : v 6 = .bool false := hd 6 (by kernel_rfl)
          have h10 : v 10 = .bool true := hd 10 (by kernel_rfl)
          refine done_want 6 false rfl g6 (yields_run (u := .bool false) (w' := w8) ?_ (Below.refl _ _) rfl)
          rw [hfin]
          unfold execOp
          simp [go_sem, Act.eval, h10]
        · intro v w8 hb hd
          have h6 : v 6 = .bool false := hd 6 (by kernel_rfl)
          have h11 : v 11 = .bool false := hd 11 (by kernel_rfl)
          refine done_plain rfl (yields_run (u := .bool false) (w' := w8) ?_ (Below.refl _ _) rfl)
          rw [hfin]
          unfold execOp
          simp [go_sem, Act.eval, h6, h11]
        · intro v w8 hb hv
          have h12 : v 12 = .bool false := hv 12 (by decide)
          rw [hfin]
          generalize v 12 = v12 at h12 ⊢
          subst h12
          have B10 := Lib.hid (then_below B9.out hb)
          clear hfin hv hb
          go_upto_region 11 with (go_at_call 15; refine (PS.out _ (TAIL.out _ B10.out)).mono ?_; rintro e w10 ⟨x, rfl, L10, R10, b10⟩)
          have OX := Whole.fresh w10 27 #[.slice x.a gs.c.length x.i, .slice x.b gs.l.length x.j, .slice x.d gs.o.length x.k, .slice x.e gs.h.length x.m]
          have f10 := fresh1 w10 (.cells #[.slice x.a gs.c.length x.i, .slice x.b gs.l.length x.j, .slice x.d gs.o.length x.k, .slice x.e gs.h.length x.m] 27)
          change Code.wp _ _ _ _ (w10.alloc (.cells #[.slice x.a gs.c.length x.i, .slice x.b gs.l.length x.j, .slice x.d gs.o.length x.k, .slice x.e gs.h.length x.m] 27))
          generalize w10.alloc (.cells #[.slice x.a gs.c.length x.i, .slice x.b gs.l.length x.j, .slice x.d gs.o.length x.k, .slice x.e gs.h.length x.m] 27) = w11 at OX f10 ⊢
          have B11 := Lib.hid (then_below B10.out (then_below b10 f10))
          have L11 := Lib.hid (L10.below f10)
          generalize w10.heap.size = gx at OX ⊢
          have OX11 := Lib.hid OX
          clear OX f10 b10 L10
          by_cases he : es = 0
          case neg =>
            obtain rfl := hbd.out he
            have hne : (es == 0) = false := by rw [beq_eq_false_iff_ne]; exact he
            have x2 : w11.cell? ⟨gx, 2, none⟩ = some (.slice x.d 0 x.k) := OX11.out.read 2
            go_wp2_with fail
            go_ret
            exact ⟨rfl, (S3.out _ B11.out).1⟩
          subst he
          obtain ⟨hc, rfl⟩ := hok.out rfl
          have hlen := text_len hc HPG.out.i
          have h100 := len100 hc
          have FX := fit_check R10 HPG.out
          have TX : Hid (∀ W, EnvG W → Lies4 W x gs → Calls Tryz.prog 21 #[.agg #[.slice x.a gs.c.length x.i, .slice x.b gs.l.length x.j, .slice x.d gs.o.length x.k, .slice x.e gs.h.length x.m]] W fun e w' => e = .returned (.tuple #[sV (textG gs), .int .i64 0]) ∧ Below W.heap.size W w') := Lib.hid fun W hW hL => by
            have h := text_any x gs FX HPG.out.i W hL hW.k hW.e.tab
            have ht : textV gs = textG gs := by unfold textV; rw [if_pos hc]
            rw [ht, hc] at h
            exact h
          have CK : Hid (∀ W, EnvG W → Lies4 W x gs → Calls Tryz.prog 23 #[.agg #[.slice x.a gs.c.length x.i, .slice x.b gs.l.length x.j, .slice x.d gs.o.length x.k, .slice x.e gs.h.length x.m]] W fun e w' => e = .returned (.int .i64 0) ∧ Below W.heap.size W w') := Lib.hid fun W hW hL => by
            have h := check_any x gs FX HPG.out.i W hL hW.k
            rw [hc] at h
            exact h
          have PT : Hid (∀ W, EnvG W → Calls Tryz.prog 15 #[sV (textG gs)] W fun e w' => ∃ v', e = .returned (.tuple #[gV v' gs, .int .i64 0, .int .i64 0]) ∧ Lies4 w' v' gs ∧ Rooms v' gs ∧ Below W.heap.size W w') := Lib.hid fun W hW => by
            have h := parseP_any (textG gs) (by omega) W hW.e hW.k
            rw [parse_text ok_last HPG.out.i hc] at h
            exact h
          have FF2 := Lib.hid (fun v2 w1 (h2 : Lies4 w1 v2 gs) => fromG_any v2 gs h100.1 h100.2.1 h100.2.2.1 h100.2.2.2 w1 h2)
          have SM2 := Lib.hid (fun u v w1 (h1 : Lies4 w1 u gs) (h2 : Lies4 w1 v gs) => sameG_any u v gs w1 h1 h2 h100.1 h100.2.1 h100.2.2.1 h100.2.2.2)
          generalize textG gs = tx at TX PT
          clear hlen h100 FX R10 hc hok hbd PS HPG
          have S11 : Hid (∀ W, Below w11.heap.size w11 W → Below w3.heap.size w3 W ∧ EnvG W ∧ Lies4 W x gs) := Lib.hid fun W hW => ⟨then_below B11.out hW, TAIL.out _ (then_below B11.out hW), L11.out.below hW⟩
          have SX : Hid (∀ W, Below w11.heap.size w11 W → W.cell? ⟨gx, 0, none⟩ = some (.slice x.a gs.c.length x.i) ∧ W.cell? ⟨gx, 1, none⟩ = some (.slice x.b gs.l.length x.j) ∧ W.cell? ⟨gx, 2, none⟩ = some (.slice x.d gs.o.length x.k) ∧ W.cell? ⟨gx, 3, none⟩ = some (.slice x.e gs.h.length x.m)) := Lib.hid fun W hW => ⟨(OX11.out.below hW OX11.out.inside).read 0, (OX11.out.below hW OX11.out.inside).read 1, (OX11.out.below hW OX11.out.inside).read 2, (OX11.out.below hW OX11.out.inside).read 3⟩
          clear OX11 L11 B11
          obtain ⟨q0, q1, q2, q3⟩ := SX.out w11 (Below.refl _ _)
          go_upto_region 14 with (go_at_call 21; refine (TX.out _ (S11.out _ (Below.refl _ _)).2.1 (S11.out _ (Below.refl _ _)).2.2).mono ?_; rintro e w12 ⟨rfl, b12⟩)
          have B12 := Lib.hid b12
          clear q0 q1 q2 q3 b12
          go_upto_region 15 with (go_at_call 15; refine (PT.out _ (S11.out _ B12.out).2.1).mono ?_; rintro e w13 ⟨y, rfl, L13, -, b13⟩)
          have OY := Whole.fresh w13 27 #[.slice y.a gs.c.length y.i, .slice y.b gs.l.length y.j, .slice y.d gs.o.length y.k, .slice y.e gs.h.length y.m]
          have f13 := fresh1 w13 (.cells #[.slice y.a gs.c.length y.i, .slice y.b gs.l.length y.j, .slice y.d gs.o.length y.k, .slice y.e gs.h.length y.m] 27)
          change Code.wp _ _ _ _ (w13.alloc (.cells #[.slice y.a gs.c.length y.i, .slice y.b gs.l.length y.j, .slice y.d gs.o.length y.k, .slice y.e gs.h.length y.m] 27))
          generalize w13.alloc (.cells #[.slice y.a gs.c.length y.i, .slice y.b gs.l.length y.j, .slice y.d gs.o.length y.k, .slice y.e gs.h.length y.m] 27) = w14 at OY f13 ⊢
          have B14 := Lib.hid (then_below B12.out (then_below b13 f13))
          have L14 := Lib.hid (L13.below f13)
          generalize w13.heap.size = gy at OY ⊢
          have OY14 := Lib.hid OY
          clear OY f13 b13 L13 B12
          have S14 : Hid (∀ W, Below w14.heap.size w14 W → Below w11.heap.size w11 W ∧ EnvG W ∧ Lies4 W x gs ∧ Lies4 W y gs) := Lib.hid fun W hW => ⟨then_below B14.out hW, (S11.out W (then_below B14.out hW)).2.1, (S11.out W (then_below B14.out hW)).2.2, L14.out.below hW⟩
          have SY : Hid (∀ W, Below w14.heap.size w14 W → ∀ i, W.cell? ⟨gy, i, none⟩ = (#[.slice y.a gs.c.length y.i, .slice y.b gs.l.length y.j, .slice y.d gs.o.length y.k, .slice y.e gs.h.length y.m] : Array Value)[i]?) := Lib.hid fun W hW => (OY14.out.below hW OY14.out.inside).read
          have SXi : Hid (∀ W, Below w14.heap.size w14 W → ∀ i, i < 4 → W.cell? ⟨gx, i, none⟩ = (#[.slice x.a gs.c.length x.i, .slice x.b gs.l.length x.j, .slice x.d gs.o.length x.k, .slice x.e gs.h.length x.m] : Array Value)[i]?) := Lib.hid fun W hW i hi => by
            obtain ⟨q0, q1, q2, q3⟩ := SX.out W (then_below B14.out hW)
            match i, hi with
            | 0, _ => exact q0
            | 1, _ => exact q1
            | 2, _ => exact q2
            | 3, _ => exact q3
          clear OY14 L14
          refine region_want 95 [Is (.int .i64 0), Is (.bool true), Is (.bool true), Is (.int .i64 0), Is (.bool true), Is (.bool true), Is (.bool true), Is (.agg #[.slice y.a gs.c.length y.i, .slice y.b gs.l.length y.j, .slice y.d gs.o.length y.k, .slice y.e gs.h.length y.m]), FrP gs, Is (.agg #[.slice x.a gs.c.length x.i, .slice x.b gs.l.length x.j, .slice x.d gs.o.length x.k, .slice x.e gs.h.length x.m]), FrP gs, Is (.bool true), Is (.bool true), Is (.bool true), Is (.agg #[.slice x.a gs.c.length x.i, .slice x.b gs.l.length x.j, .slice x.d gs.o.length x.k, .slice x.e gs.h.length x.m]), Is (.int .i64 0), Is (.bool true), Is (.bool true), Is (.bool true)] (by kernel_rfl) rfl (by kernel_rfl) ?_ ?_
          · exact ⟨keeps_is _, keeps_is _, keeps_is _, keeps_is _, keeps_is _, keeps_is _, keeps_is _, keeps_is _, keeps_frP gs, keeps_is _, keeps_frP gs, keeps_is _, keeps_is _, keeps_is _, keeps_is _, keeps_is _, keeps_is _, keeps_is _, keeps_is _, trivial⟩
          · intro fin hfin
            simp [lexPut, Act.put] at hfin
            refine ⟨⟨?_, ?_, ?_, ?_, ?_, ?_, ?_, ?_, ?_, ?_, ?_, ?_, ?_, ?_, ?_, ?_, ?_, ?_, ?_, trivial⟩, ?_⟩
            · intro v w8 hb hd
              refine done_plain rfl (yields_run (u := .int .i64 0) (w' := w8) ?_ (Below.refl _ _) rfl)
              rw [hfin]
              unfold execOp
              simp [go_sem, Act.eval]
            · intro v w8 hb hd
              have h0 : v 0 = .int .i64 0 := hd 0 (by kernel_rfl)
              refine done_plain rfl (yields_run (u := .bool true) (w' := w8) ?_ (Below.refl _ _) rfl)
              rw [hfin]
              unfold execOp
              simp [go_sem, Act.eval, h0]
            · intro v w8 hb hd
              have h1 : v 1 = .bool true := hd 1 (by kernel_rfl)
              refine done_plain rfl (yields_run (u := .bool true) (w' := w8) ?_ (Below.refl _ _) rfl)
              rw [hfin]
              unfold execOp
              simp [go_sem, Act.eval, h1]
            · intro v w8 hb hd
              have g2 : v 2 = .bool true := hd 2 (by kernel_rfl)
              refine done_want 2 true rfl g2 (yields_run (u := .int .i64 0) (w' := w8) ?_ (Below.refl _ _) rfl)
              rw [hfin]
              unfold execOp
              simp [go_sem, Act.eval]
            · intro v w8 hb hd
              have g2 : v 2 = .bool true := hd 2 (by kernel_rfl)
              have h3 : v 3 = .int .i64 0 := hd 3 (by kernel_rfl)
              refine done_want 2 true rfl g2 (yields_run (u := .bool true) (w' := w8) ?_ (Below.refl _ _) rfl)
              rw [hfin]
              unfold execOp
              simp [go_sem, Act.eval, h3]
            · intro v w8 hb hd
              have h2 : v 2 = .bool true := hd 2 (by kernel_rfl)
              have h4 : v 4 = .bool true := hd 4 (by kernel_rfl)
              refine done_plain rfl (yields_run (u := .bool true) (w' := w8) ?_ (Below.refl _ _) rfl)
              rw [hfin]
              unfold execOp
              simp [go_sem, Act.eval, h2, h4]
            · intro v w8 hb hd
              have h5 : v 5 = .bool true := hd 5 (by kernel_rfl)
              refine done_plain rfl (yields_run (u := .bool true) (w' := w8) ?_ (Below.refl _ _) rfl)
              rw [hfin]
              unfold execOp
              simp [go_sem, Act.eval, h5]
            · intro v w8 hb hd
              have g6 : v 6 = .bool true := hd 6 (by kernel_rfl)
              have k0 := SY.out w8 hb 0
              have k1 := SY.out w8 hb 1
              have k2 := SY.out w8 hb 2
              have k3 := SY.out w8 hb 3
              refine done_want 6 true rfl g6 (yields_run (u := .agg #[.slice y.a gs.c.length y.i, .slice y.b gs.l.length y.j, .slice y.d gs.o.length y.k, .slice y.e gs.h.length y.m]) (w' := w8) ?_ (Below.refl _ _) rfl)
              rw [hfin]
              unfold execOp
              simp [go_sem, Act.eval, k0, k1, k2, k3]
            · intro v w8 hb hd
              have g6 : v 6 = .bool true := hd 6 (by kernel_rfl)
              have h7 : v 7 = .agg #[.slice y.a gs.c.length y.i, .slice y.b gs.l.length y.j, .slice y.d gs.o.length y.k, .slice y.e gs.h.length y.m] := hd 7 (by kernel_rfl)
              refine done_want 6 true rfl g6 (yields_call (f := 18) rfl (vs := #[.agg #[.slice y.a gs.c.length y.i, .slice y.b gs.l.length y.j, .slice y.d gs.o.length y.k, .slice y.e gs.h.length y.m]]) (by rw [hfin]; simp [Act.eval, h7]) rfl Tryz.func18 (by kernel_rfl) (by kernel_rfl) ?_)
              exact (FF2.out y w8 (S14.out w8 hb).2.2.2).mono fun e w' ⟨v', he, hl, _, hb'⟩ => ⟨_, he, hb', v', rfl, hl⟩
            · intro v w8 hb hd
              have g6 : v 6 = .bool true := hd 6 (by kernel_rfl)
              have k0 := SXi.out w8 hb 0 (by decide)
              have k1 := SXi.out w8 hb 1 (by decide)
              have k2 := SXi.out w8 hb 2 (by decide)
              have k3 := SXi.out w8 hb 3 (by decide)
              refine done_want 6 true rfl g6 (yields_run (u := .agg #[.slice x.a gs.c.length x.i, .slice x.b gs.l.length x.j, .slice x.d gs.o.length x.k, .slice x.e gs.h.length x.m]) (w' := w8) ?_ (Below.refl _ _) rfl)
              rw [hfin]
              unfold execOp
              simp [go_sem, Act.eval, k0, k1, k2, k3]
            · intro v w8 hb hd
              have g6 : v 6 = .bool true := hd 6 (by kernel_rfl)
              have h9 : v 9 = .agg #[.slice x.a gs.c.length x.i, .slice x.b gs.l.length x.j, .slice x.d gs.o.length x.k, .slice x.e gs.h.length x.m] := hd 9 (by kernel_rfl)
              refine done_want 6 true rfl g6 (yields_call (f := 18) rfl (vs := #[.agg #[.slice x.a gs.c.length x.i, .slice x.b gs.l.length x.j, .slice x.d gs.o.length x.k, .slice x.e gs.h.length x.m]]) (by rw [hfin]; simp [Act.eval, h9]) rfl Tryz.func18 (by kernel_rfl) (by kernel_rfl) ?_)
              exact (FF2.out x w8 (S14.out w8 hb).2.2.1).mono fun e w' ⟨v', he, hl, _, hb'⟩ => ⟨_, he, hb', v', rfl, hl⟩
            · intro v w8 hb hd
              have g6 : v 6 = .bool true := hd 6 (by kernel_rfl)
              obtain ⟨u8, h8, l8⟩ : (FrP gs) (v 8) w8 := hd 8 (by kernel_rfl)
              obtain ⟨u10, h10, l10⟩ : (FrP gs) (v 10) w8 := hd 10 (by kernel_rfl)
              refine done_want 6 true rfl g6 (yields_call (f := 17) rfl (vs := #[gV u8 gs, gV u10 gs]) (by rw [hfin]; simp [Act.eval, h8, h10]) rfl Tryz.func17 (by kernel_rfl) (by kernel_rfl) ?_)
              exact (SM2.out u8 u10 w8 l8 l10).mono fun e w' ⟨he, hb'⟩ => ⟨_, he, hb', rfl⟩
            · intro v w8 hb hd
              have h6 : v 6 = .bool true := hd 6 (by kernel_rfl)
              have h11 : v 11 = .bool true := hd 11 (by kernel_rfl)
              refine done_plain rfl (yields_run (u := .bool true) (w' := w8) ?_ (Below.refl _ _) rfl)
              rw [hfin]
              unfold execOp
              simp [go_sem, Act.eval, h6, h11]
            · intro v w8 hb hd
              have h12 : v 12 = .bool true := hd 12 (by kernel_rfl)
              refine done_plain rfl (yields_run (u := .bool true) (w' := w8) ?_ (Below.refl _ _) rfl)
              rw [hfin]
              unfold execOp
              simp [go_sem, Act.eval, h12]
            · intro v w8 hb hd
              have g13 : v 13 = .bool true := hd 13 (by kernel_rfl)
              have k0 := SXi.out w8 hb 0 (by decide)
              have k1 := SXi.out w8 hb 1 (by decide)
              have k2 := SXi.out w8 hb 2 (by decide)
              have k3 := SXi.out w8 hb 3 (by decide)
              refine done_want 13 true rfl g13 (yields_run (u := .agg #[.slice x.a gs.c.length x.i, .slice x.b gs.l.length x.j, .slice x.d gs.o.length x.k, .slice x.e gs.h.length x.m]) (w' := w8) ?_ (Below.refl _ _) rfl)
              rw [hfin]
              unfold execOp
              simp [go_sem, Act.eval, k0, k1, k2, k3]
            · intro v w8 hb hd
              have g13 : v 13 = .bool true := hd 13 (by kernel_rfl)
              have h14 : v 14 = .agg #[.slice x.a gs.c.length x.i, .slice x.b gs.l.length x.j, .slice x.d gs.o.length x.k, .slice x.e gs.h.length x.m] := hd 14 (by kernel_rfl)
              refine done_want 13 true rfl g13 (yields_call (f := 23) rfl (vs := #[.agg #[.slice x.a gs.c.length x.i, .slice x.b gs.l.length x.j, .slice x.d gs.o.length x.k, .slice x.e gs.h.length x.m]]) (by rw [hfin]; simp [Act.eval, h14]) rfl Tryz.func23 (by kernel_rfl) (by kernel_rfl) ?_)
              exact (CK.out w8 (S14.out w8 hb).2.1 (S14.out w8 hb).2.2.1).mono fun e w' ⟨he, hb'⟩ => ⟨_, he, hb', rfl⟩
            · intro v w8 hb hd
              have g13 : v 13 = .bool true := hd 13 (by kernel_rfl)
              have h15 : v 15 = .int .i64 0 := hd 15 (by kernel_rfl)
              refine done_want 13 true rfl g13 (yields_run (u := .bool true) (w' := w8) ?_ (Below.refl _ _) rfl)
              rw [hfin]
              unfold execOp
              simp [go_sem, Act.eval, h15]
            · intro v w8 hb hd
              have h13 : v 13 = .bool true := hd 13 (by kernel_rfl)
              have h16 : v 16 = .bool true := hd 16 (by kernel_rfl)
              refine done_plain rfl (yields_run (u := .bool true) (w' := w8) ?_ (Below.refl _ _) rfl)
              rw [hfin]
              unfold execOp
              simp [go_sem, Act.eval, h13, h16]
            · intro v w8 hb hd
              have h17 : v 17 = .bool true := hd 17 (by kernel_rfl)
              refine done_plain rfl (yields_run (u := .bool true) (w' := w8) ?_ (Below.refl _ _) rfl)
              rw [hfin]
              unfold execOp
              simp [go_sem, Act.eval, h17]
            · intro v w8 hb hv
              have h18 : v 18 = .bool true := hv 18 (by decide)
              rw [hfin]
              generalize v 18 = v18 at h18 ⊢
              subst h18
              have B20 := Lib.hid (S14.out w8 hb).1
              clear hfin hv hb
              go_wp2_with fail
              go_ret
              exact ⟨rfl, (S3.out _ (S11.out _ B20.out).1).1⟩
    · have hne : (checkE g == 0) = false := by rw [beq_eq_false_iff_ne]; exact hc
      generalize checkE g = ce at hne ⊢
      clear FF SM
      go_upto_region 11 with (go_at_call 15; refine (PS.out _ (TAIL.out _ B7.out)).mono ?_; rintro e w10 ⟨x, rfl, L10, R10, b10⟩)
      have OX := Whole.fresh w10 27 #[.slice x.a gs.c.length x.i, .slice x.b gs.l.length x.j, .slice x.d gs.o.length x.k, .slice x.e gs.h.length x.m]
      have f10 := fresh1 w10 (.cells #[.slice x.a gs.c.length x.i, .slice x.b gs.l.length x.j, .slice x.d gs.o.length x.k, .slice x.e gs.h.length x.m] 27)
      change Code.wp _ _ _ _ (w10.alloc (.cells #[.slice x.a gs.c.length x.i, .slice x.b gs.l.length x.j, .slice x.d gs.o.length x.k, .slice x.e gs.h.length x.m] 27))
      generalize w10.alloc (.cells #[.slice x.a gs.c.length x.i, .slice x.b gs.l.length x.j, .slice x.d gs.o.length x.k, .slice x.e gs.h.length x.m] 27) = w11 at OX f10 ⊢
      have B11 := Lib.hid (then_below B7.out (then_below b10 f10))
      have L11 := Lib.hid (L10.below f10)
      generalize w10.heap.size = gx at OX ⊢
      have OX11 := Lib.hid OX
      clear OX f10 b10 L10
      by_cases he : es = 0
      case neg =>
        obtain rfl := hbd.out he
        have hne : (es == 0) = false := by rw [beq_eq_false_iff_ne]; exact he
        have x2 : w11.cell? ⟨gx, 2, none⟩ = some (.slice x.d 0 x.k) := OX11.out.read 2
        go_wp2_with fail
        go_ret
        exact ⟨rfl, (S3.out _ B11.out).1⟩
      subst he
      obtain ⟨hc, rfl⟩ := hok.out rfl
      have hlen := text_len hc HPG.out.i
      have h100 := len100 hc
      have FX := fit_check R10 HPG.out
      have TX : Hid (∀ W, EnvG W → Lies4 W x gs → Calls Tryz.prog 21 #[.agg #[.slice x.a gs.c.length x.i, .slice x.b gs.l.length x.j, .slice x.d gs.o.length x.k, .slice x.e gs.h.length x.m]] W fun e w' => e = .returned (.tuple #[sV (textG gs), .int .i64 0]) ∧ Below W.heap.size W w') := Lib.hid fun W hW hL => by
        have h := text_any x gs FX HPG.out.i W hL hW.k hW.e.tab
        have ht : textV gs = textG gs := by unfold textV; rw [if_pos hc]
        rw [ht, hc] at h
        exact h
      have CK : Hid (∀ W, EnvG W → Lies4 W x gs → Calls Tryz.prog 23 #[.agg #[.slice x.a gs.c.length x.i, .slice x.b gs.l.length x.j, .slice x.d gs.o.length x.k, .slice x.e gs.h.length x.m]] W fun e w' => e = .returned (.int .i64 0) ∧ Below W.heap.size W w') := Lib.hid fun W hW hL => by
        have h := check_any x gs FX HPG.out.i W hL hW.k
        rw [hc] at h
        exact h
      have PT : Hid (∀ W, EnvG W → Calls Tryz.prog 15 #[sV (textG gs)] W fun e w' => ∃ v', e = .returned (.tuple #[gV v' gs, .int .i64 0, .int .i64 0]) ∧ Lies4 w' v' gs ∧ Rooms v' gs ∧ Below W.heap.size W w') := Lib.hid fun W hW => by
        have h := parseP_any (textG gs) (by omega) W hW.e hW.k
        rw [parse_text ok_last HPG.out.i hc] at h
        exact h
      have FF2 := Lib.hid (fun v2 w1 (h2 : Lies4 w1 v2 gs) => fromG_any v2 gs h100.1 h100.2.1 h100.2.2.1 h100.2.2.2 w1 h2)
      have SM2 := Lib.hid (fun u v w1 (h1 : Lies4 w1 u gs) (h2 : Lies4 w1 v gs) => sameG_any u v gs w1 h1 h2 h100.1 h100.2.1 h100.2.2.1 h100.2.2.2)
      generalize textG gs = tx at TX PT
      clear hlen h100 FX R10 hc hok hbd PS HPG
      have S11 : Hid (∀ W, Below w11.heap.size w11 W → Below w3.heap.size w3 W ∧ EnvG W ∧ Lies4 W x gs) := Lib.hid fun W hW => ⟨then_below B11.out hW, TAIL.out _ (then_below B11.out hW), L11.out.below hW⟩
      have SX : Hid (∀ W, Below w11.heap.size w11 W → W.cell? ⟨gx, 0, none⟩ = some (.slice x.a gs.c.length x.i) ∧ W.cell? ⟨gx, 1, none⟩ = some (.slice x.b gs.l.length x.j) ∧ W.cell? ⟨gx, 2, none⟩ = some (.slice x.d gs.o.length x.k) ∧ W.cell? ⟨gx, 3, none⟩ = some (.slice x.e gs.h.length x.m)) := Lib.hid fun W hW => ⟨(OX11.out.below hW OX11.out.inside).read 0, (OX11.out.below hW OX11.out.inside).read 1, (OX11.out.below hW OX11.out.inside).read 2, (OX11.out.below hW OX11.out.inside).read 3⟩
      clear OX11 L11 B11
      obtain ⟨q0, q1, q2, q3⟩ := SX.out w11 (Below.refl _ _)
      go_upto_region 14 with (go_at_call 21; refine (TX.out _ (S11.out _ (Below.refl _ _)).2.1 (S11.out _ (Below.refl _ _)).2.2).mono ?_; rintro e w12 ⟨rfl, b12⟩)
      have B12 := Lib.hid b12
      clear q0 q1 q2 q3 b12
      go_upto_region 15 with (go_at_call 15; refine (PT.out _ (S11.out _ B12.out).2.1).mono ?_; rintro e w13 ⟨y, rfl, L13, -, b13⟩)
      have OY := Whole.fresh w13 27 #[.slice y.a gs.c.length y.i, .slice y.b gs.l.length y.j, .slice y.d gs.o.length y.k, .slice y.e gs.h.length y.m]
      have f13 := fresh1 w13 (.cells #[.slice y.a gs.c.length y.i, .slice y.b gs.l.length y.j, .slice y.d gs.o.length y.k, .slice y.e gs.h.length y.m] 27)
      change Code.wp _ _ _ _ (w13.alloc (.cells #[.slice y.a gs.c.length y.i, .slice y.b gs.l.length y.j, .slice y.d gs.o.length y.k, .slice y.e gs.h.length y.m] 27))
      generalize w13.alloc (.cells #[.slice y.a gs.c.length y.i, .slice y.b gs.l.length y.j, .slice y.d gs.o.length y.k, .slice y.e gs.h.length y.m] 27) = w14 at OY f13 ⊢
      have B14 := Lib.hid (then_below B12.out (then_below b13 f13))
      have L14 := Lib.hid (L13.below f13)
      generalize w13.heap.size = gy at OY ⊢
      have OY14 := Lib.hid OY
      clear OY f13 b13 L13 B12
      have S14 : Hid (∀ W, Below w14.heap.size w14 W → Below w11.heap.size w11 W ∧ EnvG W ∧ Lies4 W x gs ∧ Lies4 W y gs) := Lib.hid fun W hW => ⟨then_below B14.out hW, (S11.out W (then_below B14.out hW)).2.1, (S11.out W (then_below B14.out hW)).2.2, L14.out.below hW⟩
      have SY : Hid (∀ W, Below w14.heap.size w14 W → ∀ i, W.cell? ⟨gy, i, none⟩ = (#[.slice y.a gs.c.length y.i, .slice y.b gs.l.length y.j, .slice y.d gs.o.length y.k, .slice y.e gs.h.length y.m] : Array Value)[i]?) := Lib.hid fun W hW => (OY14.out.below hW OY14.out.inside).read
      have SXi : Hid (∀ W, Below w14.heap.size w14 W → ∀ i, i < 4 → W.cell? ⟨gx, i, none⟩ = (#[.slice x.a gs.c.length x.i, .slice x.b gs.l.length x.j, .slice x.d gs.o.length x.k, .slice x.e gs.h.length x.m] : Array Value)[i]?) := Lib.hid fun W hW i hi => by
        obtain ⟨q0, q1, q2, q3⟩ := SX.out W (then_below B14.out hW)
        match i, hi with
        | 0, _ => exact q0
        | 1, _ => exact q1
        | 2, _ => exact q2
        | 3, _ => exact q3
      clear OY14 L14
      refine region_want 95 [Is (.int .i64 0), Is (.bool true), Is (.bool true), Is (.int .i64 0), Is (.bool true), Is (.bool true), Is (.bool true), Is (.agg #[.slice y.a gs.c.length y.i, .slice y.b gs.l.length y.j, .slice y.d gs.o.length y.k, .slice y.e gs.h.length y.m]), FrP gs, Is (.agg #[.slice x.a gs.c.length x.i, .slice x.b gs.l.length x.j, .slice x.d gs.o.length x.k, .slice x.e gs.h.length x.m]), FrP gs, Is (.bool true), Is (.bool true), Is (.bool true), Is (.agg #[.slice x.a gs.c.length x.i, .slice x.b gs.l.length x.j, .slice x.d gs.o.length x.k, .slice x.e gs.h.length x.m]), Is (.int .i64 0), Is (.bool true), Is (.bool true), Is (.bool true)] (by kernel_rfl) rfl (by kernel_rfl) ?_ ?_
      · exact ⟨keeps_is _, keeps_is _, keeps_is _, keeps_is _, keeps_is _, keeps_is _, keeps_is _, keeps_is _, keeps_frP gs, keeps_is _, keeps_frP gs, keeps_is _, keeps_is _, keeps_is _, keeps_is _, keeps_is _, keeps_is _, keeps_is _, keeps_is _, trivial⟩
      · intro fin hfin
        simp [lexPut, Act.put] at hfin
        refine ⟨⟨?_, ?_, ?_, ?_, ?_, ?_, ?_, ?_, ?_, ?_, ?_, ?_, ?_, ?_, ?_, ?_, ?_, ?_, ?_, trivial⟩, ?_⟩
        · intro v w8 hb hd
          refine done_plain rfl (yields_run (u := .int .i64 0) (w' := w8) ?_ (Below.refl _ _) rfl)
          rw [hfin]
          unfold execOp
          simp [go_sem, Act.eval]
        · intro v w8 hb hd
          have h0 : v 0 = .int .i64 0 := hd 0 (by kernel_rfl)
          refine done_plain rfl (yields_run (u := .bool true) (w' := w8) ?_ (Below.refl _ _) rfl)
          rw [hfin]
          unfold execOp
          simp [go_sem, Act.eval, h0]
        · intro v w8 hb hd
          have h1 : v 1 = .bool true := hd 1 (by kernel_rfl)
          refine done_plain rfl (yields_run (u := .bool true) (w' := w8) ?_ (Below.refl _ _) rfl)
          rw [hfin]
          unfold execOp
          simp [go_sem, Act.eval, h1]
        · intro v w8 hb hd
          have g2 : v 2 = .bool true := hd 2 (by kernel_rfl)
          refine done_want 2 true rfl g2 (yields_run (u := .int .i64 0) (w' := w8) ?_ (Below.refl _ _) rfl)
          rw [hfin]
          unfold execOp
          simp [go_sem, Act.eval]
        · intro v w8 hb hd
          have g2 : v 2 = .bool true := hd 2 (by kernel_rfl)
          have h3 : v 3 = .int .i64 0 := hd 3 (by kernel_rfl)
          refine done_want 2 true rfl g2 (yields_run (u := .bool true) (w' := w8) ?_ (Below.refl _ _) rfl)
          rw [hfin]
          unfold execOp
          simp [go_sem, Act.eval, h3]
        · intro v w8 hb hd
          have h2 : v 2 = .bool true := hd 2 (by kernel_rfl)
          have h4 : v 4 = .bool true := hd 4 (by kernel_rfl)
          refine done_plain rfl (yields_run (u := .bool true) (w' := w8) ?_ (Below.refl _ _) rfl)
          rw [hfin]
          unfold execOp
          simp [go_sem, Act.eval, h2, h4]
        · intro v w8 hb hd
          have h5 : v 5 = .bool true := hd 5 (by kernel_rfl)
          refine done_plain rfl (yields_run (u := .bool true) (w' := w8) ?_ (Below.refl _ _) rfl)
          rw [hfin]
          unfold execOp
          simp [go_sem, Act.eval, h5]
        · intro v w8 hb hd
          have g6 : v 6 = .bool true := hd 6 (by kernel_rfl)
          have k0 := SY.out w8 hb 0
          have k1 := SY.out w8 hb 1
          have k2 := SY.out w8 hb 2
          have k3 := SY.out w8 hb 3
          refine done_want 6 true rfl g6 (yields_run (u := .agg #[.slice y.a gs.c.length y.i, .slice y.b gs.l.length y.j, .slice y.d gs.o.length y.k, .slice y.e gs.h.length y.m]) (w' := w8) ?_ (Below.refl _ _) rfl)
          rw [hfin]
          unfold execOp
          simp [go_sem, Act.eval, k0, k1, k2, k3]
        · intro v w8 hb hd
          have g6 : v 6 = .bool true := hd 6 (by kernel_rfl)
          have h7 : v 7 = .agg #[.slice y.a gs.c.length y.i, .slice y.b gs.l.length y.j, .slice y.d gs.o.length y.k, .slice y.e gs.h.length y.m] := hd 7 (by kernel_rfl)
          refine done_want 6 true rfl g6 (yields_call (f := 18) rfl (vs := #[.agg #[.slice y.a gs.c.length y.i, .slice y.b gs.l.length y.j, .slice y.d gs.o.length y.k, .slice y.e gs.h.length y.m]]) (by rw [hfin]; simp [Act.eval, h7]) rfl Tryz.func18 (by kernel_rfl) (by kernel_rfl) ?_)
          exact (FF2.out y w8 (S14.out w8 hb).2.2.2).mono fun e w' ⟨v', he, hl, _, hb'⟩ => ⟨_, he, hb', v', rfl, hl⟩
        · intro v w8 hb hd
          have g6 : v 6 = .bool true := hd 6 (by kernel_rfl)
          have k0 := SXi.out w8 hb 0 (by decide)
          have k1 := SXi.out w8 hb 1 (by decide)
          have k2 := SXi.out w8 hb 2 (by decide)
          have k3 := SXi.out w8 hb 3 (by decide)
          refine done_want 6 true rfl g6 (yields_run (u := .agg #[.slice x.a gs.c.length x.i, .slice x.b gs.l.length x.j, .slice x.d gs.o.length x.k, .slice x.e gs.h.length x.m]) (w' := w8) ?_ (Below.refl _ _) rfl)
          rw [hfin]
          unfold execOp
          simp [go_sem, Act.eval, k0, k1, k2, k3]
        · intro v w8 hb hd
          have g6 : v 6 = .bool true := hd 6 (by kernel_rfl)
          have h9 : v 9 = .agg #[.slice x.a gs.c.length x.i, .slice x.b gs.l.length x.j, .slice x.d gs.o.length x.k, .slice x.e gs.h.length x.m] := hd 9 (by kernel_rfl)
          refine done_want 6 true rfl g6 (yields_call (f := 18) rfl (vs := #[.agg #[.slice x.a gs.c.length x.i, .slice x.b gs.l.length x.j, .slice x.d gs.o.length x.k, .slice x.e gs.h.length x.m]]) (by rw [hfin]; simp [Act.eval, h9]) rfl Tryz.func18 (by kernel_rfl) (by kernel_rfl) ?_)
          exact (FF2.out x w8 (S14.out w8 hb).2.2.1).mono fun e w' ⟨v', he, hl, _, hb'⟩ => ⟨_, he, hb', v', rfl, hl⟩
        · intro v w8 hb hd
          have g6 : v 6 = .bool true := hd 6 (by kernel_rfl)
          obtain ⟨u8, h8, l8⟩ : (FrP gs) (v 8) w8 := hd 8 (by kernel_rfl)
          obtain ⟨u10, h10, l10⟩ : (FrP gs) (v 10) w8 := hd 10 (by kernel_rfl)
          refine done_want 6 true rfl g6 (yields_call (f := 17) rfl (vs := #[gV u8 gs, gV u10 gs]) (by rw [hfin]; simp [Act.eval, h8, h10]) rfl Tryz.func17 (by kernel_rfl) (by kernel_rfl) ?_)
          exact (SM2.out u8 u10 w8 l8 l10).mono fun e w' ⟨he, hb'⟩ => ⟨_, he, hb', rfl⟩
        · intro v w8 hb hd
          have h6 : v 6 = .bool true := hd 6 (by kernel_rfl)
          have h11 : v 11 = .bool true := hd 11 (by kernel_rfl)
          refine done_plain rfl (yields_run (u := .bool true) (w' := w8) ?_ (Below.refl _ _) rfl)
          rw [hfin]
          unfold execOp
          simp [go_sem, Act.eval, h6, h11]
        · intro v w8 hb hd
          have h12 : v 12 = .bool true := hd 12 (by kernel_rfl)
          refine done_plain rfl (yields_run (u := .bool true) (w' := w8) ?_ (Below.refl _ _) rfl)
          rw [hfin]
          unfold execOp
          simp [go_sem, Act.eval, h12]
        · intro v w8 hb hd
          have g13 : v 13 = .bool true := hd 13 (by kernel_rfl)
          have k0 := SXi.out w8 hb 0 (by decide)
          have k1 := SXi.out w8 hb 1 (by decide)
          have k2 := SXi.out w8 hb 2 (by decide)
          have k3 := SXi.out w8 hb 3 (by decide)
          refine done_want 13 true rfl g13 (yields_run (u := .agg #[.slice x.a gs.c.length x.i, .slice x.b gs.l.length x.j, .slice x.d gs.o.length x.k, .slice x.e gs.h.length x.m]) (w' := w8) ?_ (Below.refl _ _) rfl)
          rw [hfin]
          unfold execOp
          simp [go_sem, Act.eval, k0, k1, k2, k3]
        · intro v w8 hb hd
          have g13 : v 13 = .bool true := hd 13 (by kernel_rfl)
          have h14 : v 14 = .agg #[.slice x.a gs.c.length x.i, .slice x.b gs.l.length x.j, .slice x.d gs.o.length x.k, .slice x.e gs.h.length x.m] := hd 14 (by kernel_rfl)
          refine done_want 13 true rfl g13 (yields_call (f := 23) rfl (vs := #[.agg #[.slice x.a gs.c.length x.i, .slice x.b gs.l.length x.j, .slice x.d gs.o.length x.k, .slice x.e gs.h.length x.m]]) (by rw [hfin]; simp [Act.eval, h14]) rfl Tryz.func23 (by kernel_rfl) (by kernel_rfl) ?_)
          exact (CK.out w8 (S14.out w8 hb).2.1 (S14.out w8 hb).2.2.1).mono fun e w' ⟨he, hb'⟩ => ⟨_, he, hb', rfl⟩
        · intro v w8 hb hd
          have g13 : v 13 = .bool true := hd 13 (by kernel_rfl)
          have h15 : v 15 = .int .i64 0 := hd 15 (by kernel_rfl)
          refine done_want 13 true rfl g13 (yields_run (u := .bool true) (w' := w8) ?_ (Below.refl _ _) rfl)
          rw [hfin]
          unfold execOp
          simp [go_sem, Act.eval, h15]
        · intro v w8 hb hd
          have h13 : v 13 = .bool true := hd 13 (by kernel_rfl)
          have h16 : v 16 = .bool true := hd 16 (by kernel_rfl)
          refine done_plain rfl (yields_run (u := .bool true) (w' := w8) ?_ (Below.refl _ _) rfl)
          rw [hfin]
          unfold execOp
          simp [go_sem, Act.eval, h13, h16]
        · intro v w8 hb hd
          have h17 : v 17 = .bool true := hd 17 (by kernel_rfl)
          refine done_plain rfl (yields_run (u := .bool true) (w' := w8) ?_ (Below.refl _ _) rfl)
          rw [hfin]
          unfold execOp
          simp [go_sem, Act.eval, h17]
        · intro v w8 hb hv
          have h18 : v 18 = .bool true := hv 18 (by decide)
          rw [hfin]
          generalize v 18 = v18 at h18 ⊢
          subst h18
          have B20 := Lib.hid (S14.out w8 hb).1
          clear hfin hv hb
          go_wp2_with fail
          go_ret
          exact ⟨rfl, (S3.out _ (S11.out _ B20.out).1).1⟩
end Go.Proofs.YtpblpjopinllcaaGreatDoor.graph
