/-
  The walk of OperOrder (by gen_pr.py).
-/
import Derived.Test.YtpbdfiddgbkkmaaDoorGsb
import Derived.Test.YtpbdfiddgbkkmaaDoorWks
import Derived.Test.YtpbdfiddgbkkmaaDoorAp
import Derived.Test.YtpbdfiddgbkkmaaDoorDsp
import Derived.Test.YtpbdfiddgbkkmaaDoorRt3
import Derived.Test.YtpbdfiddgbkkmaaDoorRt9
namespace Go.Proofs.YtpbdfiddgbkkmaaDoor.oper
open Go.ChangeShapes Go.WideShapes Go.ChangeAt Go.RowKit
open Go.Proofs.YtpbdfiddgbkkmaaDoor.tm Go.Proofs.YtpbdfiddgbkkmaaDoor.opened Go.Proofs.YtpbdfiddgbkkmaaDoor.block Go.Proofs.YtpbdfiddgbkkmaaDoor.region Go.Proofs.YtpbdfiddgbkkmaaDoor.data Go.Proofs.YtpbdfiddgbkkmaaDoor.num

/-- Where a key goes. -/
def pk (n : Int) (q : Int) : Nat := (partV q n).toNat
theorem pk_lt {m : Nat} (h1 : 1 ≤ m) (h2 : m ≤ 4) (q : Int) : pk (m : Int) q < m := by
  have := (pt_lt (n := (m : Int)) ⟨by omega, by omega⟩ ⟨q, 0⟩).1
  simpa [pk, pt] using this
theorem place_is (n : Int) : ∃ m : Nat, 1 ≤ m ∧ m ≤ 4 ∧ wrap64 (1 + wrap64 ((IntKind.u64.wrap n).tmod 4)) = (m : Int) := by
  have h0 := wrap_u64_nonneg n
  generalize IntKind.u64.wrap n = u at h0
  rw [Int.tmod_eq_emod_of_nonneg h0]
  have h1 := Int.emod_nonneg u (show (4 : Int) ≠ 0 by decide)
  have h2 := Int.emod_lt_of_pos u (show (0 : Int) < 4 by decide)
  generalize u % 4 = r at h1 h2
  refine ⟨1 + r.toNat, by omega, by omega, ?_⟩
  rw [IntWalk.wrap64_in r ⟨by omega, by omega⟩, IntWalk.wrap64_in _ ⟨by omega, by omega⟩]
  omega
set_option maxRecDepth 100000 in
set_option maxHeartbeats 16000000 in
theorem walkOrder (o : Od) (io : o.In) (A : Option Addr) (c : Nat) (L : List Rc) (iL : InR L) (n : Int) (w : World) (hL : Lr w A L) :
    Calls Tryd.prog 4 #[.agg (odV o), .slice A L.length c, .int .i64 n] w fun e w' => e = .returned (.bool true) ∧ Below w.heap.size w w' := by
  have WK := Lib.hid (fun w0 => works_any w0)
  have TO := Lib.hid (fun w0 => to_any o w0)
  have HL0 := Lib.hid hL
  have HB1 := Lib.hid (fresh0 w (.cells (odV o) 23))
  have HG1 := Lib.hid (Whole.fresh w 23 (odV o))
  have HL1 := Lib.hid (HL0.out.below HB1.out)
  clear hL HL0
  by_cases hl : L.length ≤ 300
  rotate_left
  · have hl' : (300 : Int) < (L.length : Int) := by omega
    clear hl iL
    generalize L.length = l at hl' ⊢
    go_enter Tryd.func4, Tryd.ntmps4
    go_wp2_with (go_at_call 6; refine (WK.out _).mono ?_; rintro e w2 ⟨rfl, b2⟩; have HL2 := Lib.hid (HL1.out.below b2); have HB2 := Lib.hid (HB1.out.trans (b2.mono HB1.out.size)); have HG2 := Lib.hid (HG1.out.below b2 HG1.out.inside); clear b2)
    go_ret
    exact ⟨rfl, HB2.out⟩
  have hl' : ¬ (300 : Int) < (L.length : Int) := by omega
  have OW := Lib.hid (fun A c w0 h => own_lr A c L (by omega) w0 h)
  have GP := Lib.hid (fun A c w0 h => goes_any o io A c L iL (by omega) w0 h)
  have GR := Lib.hid (fun A c w0 h => goes_any o io A c L.reverse (fun r hr => iL r (List.mem_reverse.1 hr)) (by rw [List.length_reverse]; omega) w0 h)
  have GA := Lib.hid (fun A c N w0 (hN : InR N) (hn : N.length ≤ 4096) h => goes_any o io A c N hN hn w0 h)
  have SM := Lib.hid (fun A B c d w0 h k => same_any A B c d (goV o.k o.x o.y L) (goV o.k o.x o.y L.reverse) (by have := goV_len o.k o.x o.y L; omega) (by have := goV_len o.k o.x o.y L.reverse; rw [List.length_reverse] at this; omega) w0 h k)
  rw [decide_eq_true (goV_srt (List.reverse_perm L).symm)] at SM
  have KP := Lib.hid (fun w0 => keeps_bel o.k w0)
  have HI := Lib.hid iL
  have HLn := Lib.hid hl
  obtain ⟨i0, hi0, hz0, hz1, hz2⟩ := infoR_parts
  obtain ⟨LR, hLR⟩ : ∃ LR, LR = L.reverse := ⟨_, rfl⟩
  rw [← hLR] at GR SM
  obtain ⟨M1, hM1⟩ : ∃ M1, M1 = goV o.k o.x o.y L := ⟨_, rfl⟩
  rw [← hM1] at GP SM
  generalize goV o.k o.x o.y LR = M2 at GR SM
  have HM1 := Lib.hid hM1
  have HLR := Lib.hid hLR
  clear iL hLR hM1
  go_enter Tryd.func4, Tryd.ntmps4
  go_upto_region 3 with (go_at_call 6; refine (WK.out _).mono ?_; rintro e w2 ⟨rfl, b2⟩; have HL2 := Lib.hid (HL1.out.below b2); have HB2 := Lib.hid (HB1.out.trans (b2.mono HB1.out.size)); have HG2 := Lib.hid (HG1.out.below b2 HG1.out.inside); clear b2)
  clear WK HB1 HG1 HL1
  obtain ⟨g0, hg0⟩ : ∃ g0, g0 = w.heap.size := ⟨_, rfl⟩
  obtain ⟨HG0, -⟩ : ∃ h : Hid (Whole w2 g0 23 (odV o)), True := ⟨Lib.hid (by rw [hg0]; exact HG2.out), trivial⟩
  rw [← hg0]
  clear hg0 HG2
  have e0 : IntKind.i64.wrap ((L.length : Int) - 1) = (L.length : Int) - 1 := by rw [IntKind.wrap_i64]; omega
  go_wp2_with fail
  clear e0 hl hl'
  go_loopw [7, 8] (fun v7 s wr => ∃ (p : Nat) (N : List Rc) (D : Option Addr) (c' : Nat), p ≤ L.length ∧ v7 = .slice D N.length c' ∧ s = .int .i64 ((p : Int) - 1) ∧ Hid (N = (L.drop p).reverse) ∧ Hid (OwnR wr w2.heap.size (.slice D N.length c') N) ∧ Hid (Below w2.heap.size w2 wr)) (fun _ s _ => (intOf s + 1).toNat)
  case atStart => exact ⟨L.length, [], none, 0, Nat.le_refl _, rfl, rfl, Lib.hid (by simp), Lib.hid (ownG_nil _ _), Lib.hid (Below.refl _ _)⟩
  case round =>
    obtain ⟨p, N, D, c', hp, rfl, rfl, HN, HO, HB⟩ := hrel
    rename World => w3
    cases p with
    | succ j =>
      obtain ⟨x, hx, hxm⟩ := get_ltR (show j < L.length by omega)
      obtain ⟨b1, o1, hA, hb1, c0, c1⟩ := at_rc (HL2.out.below HB.out) hx
      subst hA
      have ej : ((j + 1 : Nat) : Int) - 1 = (j : Int) := by omega
      have ej2 : IntKind.i64.wrap ((j : Int) - 1) = (j : Int) - 1 := by rw [IntKind.wrap_i64]; have := HLn.out; omega
      have hge : (0 : Int) ≤ (j : Int) := by omega
      have hjl : j < L.length := by omega
      have hN4 : N.length ≤ 300 := by rw [HN.out, List.length_reverse, List.length_drop]; have := HLn.out; omega
      have HNX := Lib.hid (show N ++ [x] = (L.drop j).reverse by rw [HN.out, drop_next hx, List.reverse_cons])
      have HO3 := Lib.hid (HO.out.below (fresh0 w3 (.cells #[.int .i64 x.k, .int .i64 x.v] 33)))
      rw [ej]
      clear hx hxm ej
      go_wp2_with (at_builtin; refine wpList_append_own _ rfl _ _ 24 rfl w2.heap.size 33 i0 (.agg #[.int .i64 0, .int .i64 0]) 2 16 Tryd.underlying24 hi0 hz0 hz1 hz2 rfl (by decide) _ N.length (N.flatMap cR) rfl HO3.out ⟨w3.heap.size, 0, none⟩ 1 1 (cR x) rfl rfl (cell_newG _ _ _) (cellsR.one x) (by unfold maxLen; omega) (by omega) (by have := HB.out.size; simp; omega) ?_; intro v' w5 hown' hgrow _; obtain ⟨g, cap', rfl⟩ := OwnG.succ hown'; have HO5 := Lib.hid (own_snoc hown'); have HB5 := Lib.hid ((HB.out.alloc HB.out.size (.cells #[.int .i64 x.k, .int .i64 x.v] 33)).grown hgrow (by have := HB.out.size; simp; omega) (fun q e => (HO3.out.lt q e).1)); clear hown' hgrow)
      go_roundw
      case rel => exact ⟨j, N ++ [x], some ⟨g, 0, none⟩, cap', by omega, by simp, rfl, HNX, Lib.hid (by have h := HO5.out; rw [List.length_append]; exact h), HB5⟩
      case measure => simp [intOf]
    | zero =>
      have HR0 := Lib.hid (HO.out.lg cellsR)
      have eN := HN.out
      rw [List.drop_zero, ← HLR.out] at eN
      rw [eN] at HR0
      have eZ : ((0 : Nat) : Int) - 1 = -1 := rfl
      rw [eN, eZ]
      clear HN HO eN eZ
      go_upto_region 10 with fail
      obtain ⟨wx, hwx⟩ : ∃ wx, wx = w3 := ⟨_, rfl⟩
      rw [← hwx] at HR0 HB ⊢
      have HG9 := Lib.hid (HG0.out.below HB.out HG0.out.inside)
      have HL9 := Lib.hid (HL2.out.below HB.out)
      have HB9 := Lib.hid (HB2.out.trans (HB.out.mono HB2.out.size))
      clear hwx HG0 HL2 HB2 HB
      have HG0 := HG9
      have HL := HL9
      have HB := HB9
      have HR := HR0
      clear HG9 HL9 HB9 HR0
      obtain ⟨DR, hDR⟩ : ∃ DR, DR = D := ⟨_, rfl⟩
      obtain ⟨cR, hcR⟩ : ∃ cR, cR = c' := ⟨_, rfl⟩
      rw [← hDR] at HR ⊢
      rw [← hcR]
      clear hDR hcR
      refine region_want 101 [Is (.agg (odV o)), Is (.agg (odV o)), Is (.slice A L.length c), RowP L, RowP M1, Is (.agg (odV o)), Is (.agg (odV o)), Is (.slice DR LR.length cR), RowP M2, RowP M1, RowP M2] (by kernel_rfl) rfl (by kernel_rfl) ?_ ?_
      · exact ⟨keeps_is _, keeps_is _, keeps_is _, keeps_rowP _, keeps_rowP _, keeps_is _, keeps_is _, keeps_is _, keeps_rowP _, keeps_rowP _, keeps_rowP _, trivial⟩
      · intro fin hfin
        simp [lexPut, Act.put] at hfin
        refine ⟨⟨?_, ?_, ?_, ?_, ?_, ?_, ?_, ?_, ?_, ?_, ?_, trivial⟩, ?_⟩
        · intro v w8 hb hd
          have k0 := (HG0.out.below hb HG0.out.inside).read 0
          have k1 := (HG0.out.below hb HG0.out.inside).read 1
          have k2 := (HG0.out.below hb HG0.out.inside).read 2
          have k3 := (HG0.out.below hb HG0.out.inside).read 3
          have k4 := (HG0.out.below hb HG0.out.inside).read 4
          have k5 := (HG0.out.below hb HG0.out.inside).read 5
          refine done_plain rfl (yields_run (u := .agg (odV o)) (w' := w8) ?_ (Below.refl _ _) rfl)
          rw [hfin]
          unfold execOp
          simp [go_sem, Act.eval, k0, k1, k2, k3, k4, k5]
        · intro v w8 hb hd
          have h0 : v 0 = .agg (odV o) := hd 0 (by kernel_rfl)
          refine done_plain rfl (yields_call (f := 8) rfl (vs := #[.agg (odV o)]) (by rw [hfin]; simp [Act.eval, h0]) rfl Tryd.func8 (by kernel_rfl) (by kernel_rfl) ?_)
          exact (TO.out w8).mono fun e w' ⟨he, hb'⟩ => ⟨_, he, hb', rfl⟩
        · intro v w8 hb hd
          refine done_plain rfl (yields_run (u := .slice A L.length c) (w' := w8) ?_ (Below.refl _ _) rfl)
          rw [hfin]
          unfold execOp
          simp [go_sem, Act.eval]
        · intro v w8 hb hd
          have h2 : v 2 = .slice A L.length c := hd 2 (by kernel_rfl)
          refine done_plain rfl (yields_call (f := 9) rfl (vs := #[.slice A L.length c]) (by rw [hfin]; simp [Act.eval, h2]) rfl Tryd.func9 (by kernel_rfl) (by kernel_rfl) ?_)
          exact (OW.out A c w8 (HL.out.below hb)).mono fun e w' ⟨B9, c9, he, hl9, hb'⟩ => ⟨_, he, hb', B9, c9, rfl, hl9⟩
        · intro v w8 hb hd
          have h1 : v 1 = .agg (odV o) := hd 1 (by kernel_rfl)
          obtain ⟨B1, c1, h3, l1⟩ : RowP L (v 3) w8 := hd 3 (by kernel_rfl)
          refine done_plain rfl (yields_call (f := 11) rfl (vs := #[.agg (odV o), .slice B1 L.length c1]) (by rw [hfin]; simp [Act.eval, h1, h3]) rfl Tryd.func11 (by kernel_rfl) (by kernel_rfl) ?_)
          exact (GP.out B1 c1 w8 l1).mono fun e w' ⟨B9, c9, he, hl9, hb'⟩ => ⟨_, he, hb', B9, c9, rfl, hl9⟩
        · intro v w8 hb hd
          have k0 := (HG0.out.below hb HG0.out.inside).read 0
          have k1 := (HG0.out.below hb HG0.out.inside).read 1
          have k2 := (HG0.out.below hb HG0.out.inside).read 2
          have k3 := (HG0.out.below hb HG0.out.inside).read 3
          have k4 := (HG0.out.below hb HG0.out.inside).read 4
          have k5 := (HG0.out.below hb HG0.out.inside).read 5
          refine done_plain rfl (yields_run (u := .agg (odV o)) (w' := w8) ?_ (Below.refl _ _) rfl)
          rw [hfin]
          unfold execOp
          simp [go_sem, Act.eval, k0, k1, k2, k3, k4, k5]
        · intro v w8 hb hd
          have h5 : v 5 = .agg (odV o) := hd 5 (by kernel_rfl)
          refine done_plain rfl (yields_call (f := 8) rfl (vs := #[.agg (odV o)]) (by rw [hfin]; simp [Act.eval, h5]) rfl Tryd.func8 (by kernel_rfl) (by kernel_rfl) ?_)
          exact (TO.out w8).mono fun e w' ⟨he, hb'⟩ => ⟨_, he, hb', rfl⟩
        · intro v w8 hb hd
          refine done_plain rfl (yields_run (u := .slice DR LR.length cR) (w' := w8) ?_ (Below.refl _ _) rfl)
          rw [hfin]
          unfold execOp
          simp [go_sem, Act.eval]
        · intro v w8 hb hd
          have h6 : v 6 = .agg (odV o) := hd 6 (by kernel_rfl)
          have h7 : v 7 = .slice DR LR.length cR := hd 7 (by kernel_rfl)
          refine done_plain rfl (yields_call (f := 11) rfl (vs := #[.agg (odV o), .slice DR LR.length cR]) (by rw [hfin]; simp [Act.eval, h6, h7]) rfl Tryd.func11 (by kernel_rfl) (by kernel_rfl) ?_)
          exact (GR.out DR cR w8 (HR.out.below hb)).mono fun e w' ⟨B9, c9, he, hl9, hb'⟩ => ⟨_, he, hb', B9, c9, rfl, hl9⟩
        · intro v w8 hb hd
          obtain ⟨B9, c9, h4, l9⟩ : RowP M1 (v 4) w8 := hd 4 (by kernel_rfl)
          refine done_plain rfl (yields_run (u := v 4) (w' := w8) ?_ (Below.refl _ _) ⟨B9, c9, h4, l9⟩)
          rw [hfin]
          unfold execOp
          simp [go_sem, Act.eval]
        · intro v w8 hb hd
          obtain ⟨B9, c9, h8, l9⟩ : RowP M2 (v 8) w8 := hd 8 (by kernel_rfl)
          refine done_plain rfl (yields_run (u := v 8) (w' := w8) ?_ (Below.refl _ _) ⟨B9, c9, h8, l9⟩)
          rw [hfin]
          unfold execOp
          simp [go_sem, Act.eval]
        · intro v w8 hb hv
          obtain ⟨BA, cA, h9, lA⟩ : RowP M1 (v 9) w8 := hv 9 (by decide)
          obtain ⟨BB, cB, h10, lB⟩ : RowP M2 (v 10) w8 := hv 10 (by decide)
          rw [hfin]
          generalize v 9 = v9 at h9 ⊢
          generalize v 10 = v10 at h10 ⊢
          subst h9 h10
          have HA8 := Lib.hid lA
          have HD8 := Lib.hid lB
          have HG8 := Lib.hid (HG0.out.below hb HG0.out.inside)
          have HL8 := Lib.hid (HL.out.below hb)
          have HB8 := Lib.hid (HB.out.trans (hb.mono HB.out.size))
          clear hfin hv hb lA lB HG0 HL HR HB
          have ARMS : True := trivial
          cases hk : keepsB o.k with
          | false =>
            rw [hk] at KP
            go_wp2_with (first | (go_at_call 13; refine (KP.out _).mono ?_; rintro e w10 ⟨rfl, b10⟩; have HB10 := Lib.hid (HB9.out.trans (b10.mono HB9.out.size)); clear b10) | (go_at_call 12; refine (SM.out BA BB cA cB _ HA8.out HD8.out).mono ?_; rintro e w9 ⟨rfl, b9⟩; have HB9 := Lib.hid (HB8.out.trans (b9.mono HB8.out.size)); have k1 := (HG8.out.below b9 HG8.out.inside).read 1; clear b9))
            go_ret
            exact ⟨rfl, HB10.out⟩
          | true =>
            rw [hk] at KP
            have HMF : Hid (M1 = foldV o.k L) := Lib.hid (by rw [HM1.out]; unfold goV; rw [hk]; rfl)
            have HMR : Hid (Rise M1) := Lib.hid (by rw [HMF.out]; exact fold_rise _ _)
            have hml : M1.length ≤ 300 := by rw [HMF.out]; have := fold_len o.k L; have := HLn.out; omega
            have HGO : Hid (∀ P, goV o.k o.x o.y P = foldV o.k P) := Lib.hid (fun P => by unfold goV; rw [hk]; rfl)
            clear hk
            go_wp2_with (first | (go_at_call 13; refine (KP.out _).mono ?_; rintro e w10 ⟨rfl, b10⟩; have HB10 := Lib.hid (HB9.out.trans (b10.mono HB9.out.size)); have HG10 := Lib.hid (HG9.out.below b10 HG9.out.inside); have HA10 := Lib.hid (HA9.out.below b10); have HL10 := Lib.hid (HL9.out.below b10); clear b10 k1) | (go_at_call 12; refine (SM.out BA BB cA cB _ HA8.out HD8.out).mono ?_; rintro e w9 ⟨rfl, b9⟩; have HB9 := Lib.hid (HB8.out.trans (b9.mono HB8.out.size)); have HG9 := Lib.hid (HG8.out.below b9 HG8.out.inside); have HA9 := Lib.hid (HA8.out.below b9); have HL9 := Lib.hid (HL8.out.below b9); have k1 := HG9.out.read 1; clear b9))
            rename World => w10
            clear HB8 HG8 HA8 HD8 HL8 HB9 HG9 HA9 HL9 SM KP GP GR HLR
            go_loopw [11] (fun s wr => ∃ p : Nat, 1 ≤ p ∧ p ≤ 301 ∧ s = .int .i64 p ∧ Hid (Below w10.heap.size w10 wr)) (fun s _ => M1.length - (intOf s).toNat)
            case atStart => exact ⟨1, Nat.le_refl _, by omega, rfl, Lib.hid (Below.refl _ _)⟩
            case round =>
              obtain ⟨p, hp1, hp2, rfl, HBr⟩ := hrel
              rename World => w11
              by_cases hlt : p < M1.length
              · obtain ⟨x, hx, -⟩ := get_ltR hlt
                obtain ⟨b1, o1, hA, hb1, c0, -⟩ := at_rc (HA10.out.below HBr.out) hx
                subst hA
                obtain ⟨q, hq⟩ : ∃ q, q = p - 1 := ⟨_, rfl⟩
                have hql : q < M1.length := by omega
                obtain ⟨y, hy, -⟩ := get_ltR hql
                obtain ⟨b2, o2, hA2, hb2, d0, -⟩ := at_rc (HA10.out.below HBr.out) hy
                injection (Option.some.inj hA2) with e1 e2
                subst e1 e2
                have hsub : IntKind.i64.wrap ((p : Int) - 1) = (q : Int) := by rw [IntKind.wrap_i64]; omega
                have hlk : ¬ x.k ≤ y.k := by
                  obtain ⟨x1, x2⟩ := List.getElem?_eq_some_iff.1 hx
                  obtain ⟨y1, y2⟩ := List.getElem?_eq_some_iff.1 hy
                  have := List.pairwise_iff_getElem.1 HMR.out q p y1 x1 (by omega)
                  rw [x2, y2] at this
                  omega
                have s0 : ∀ z : Since w11, z.1.cell? ⟨b1, o1 + p * 2, none⟩ = some (.int .i64 x.k) := fun z => (z.2.cell (p := ⟨b1, o1 + p * 2, none⟩) hb1).trans c0
                have s1 : ∀ z : Since w11, z.1.cell? ⟨b1, o1 + q * 2, none⟩ = some (.int .i64 y.k) := fun z => (z.2.cell (p := ⟨b1, o1 + q * 2, none⟩) hb1).trans d0
                clear hx hy hA2 hb2 c0 d0 hq
                go_upto_region 18 with fail
                refine region_since w11 (by kernel_rfl) (by kernel_rfl) (Below.refl _ _) ?_
                repeat (go_big_quiet_step (fail))
                refine wpQuiet_nil ?_
                rintro w12 ⟨xx, hw3⟩
                have b12 : Below w11.heap.size w11 w12 := hw3 ▸ xx.2
                have HB12 := Lib.hid (HBr.out.trans (b12.mono HBr.out.size))
                clear hw3 xx b12 s0 s1
                go_wp2_with fail
                go_roundw
                case rel => exact ⟨p + 1, by omega, by omega, by go_num, HB12⟩
                case measure => simp [intOf]; omega
              · have HL11 := Lib.hid (HL10.out.below HBr.out)
                have HG11 := Lib.hid (HG10.out.below HBr.out HG10.out.inside)
                have HA11 := Lib.hid (HA10.out.below HBr.out)
                have HB11 := Lib.hid (HB10.out.trans (HBr.out.mono HB10.out.size))
                clear HL10 HG10 HA10 HB10 HBr hp1 hp2
                obtain ⟨m, hm1, hm2, hmv⟩ := place_is n
                have SP := Lib.hid (fun A c w0 h => spread_any A c L (m : Int) (by have := HLn.out; omega) w0 h)
                have hpe : partE (m : Int) = 0 := by unfold partE; rw [if_pos (by omega)]
                have hsv : sprV (m : Int) L = spr (fun r => pk (m : Int) r.k) m L := by unfold sprV; rw [if_pos (by omega)]; rfl
                rw [hpe] at SP
                have HNl : Hid ((sprV (m : Int) L).length = m) := Lib.hid (by rw [hsv, spr_len])
                have HNP : Hid (∀ P ∈ sprV (m : Int) L, InR P ∧ P.length ≤ 300) := Lib.hid (by
                  intro P hP
                  rw [hsv] at hP
                  unfold spr at hP
                  obtain ⟨q, -, rfl⟩ := List.mem_map.1 hP
                  exact ⟨fun r hr => HI.out r (List.mem_filter.1 hr).1, Nat.le_trans (List.length_filter_le _ _) HLn.out⟩)
                have HNF : Hid (((sprV (m : Int) L).flatMap (foldV o.k)).Perm (foldV o.k L)) := Lib.hid (by rw [hsv]; exact parts_perm fun r _ => pk_lt hm1 hm2 r.k)
                generalize sprV (m : Int) L = NS at SP HNl HNP HNF
                clear hpe hsv
                go_wp2_with (first | (go_at_call 14; try rw [hmv]; refine (SP.out AX cX _ HX12.out).mono ?_; rintro e w13 ⟨BS, cS, rfl, ls, b13⟩; have HS13 := Lib.hid ls; have HB13 := Lib.hid (HB12.out.trans (b13.mono HB12.out.size)); have HG13 := Lib.hid (HG12.out.below b13 HG12.out.inside); have HA13 := Lib.hid (HA12.out.below b13); clear ls b13) | (go_at_call 9; refine (OW.out A c _ HL11.out).mono ?_; rintro e w12 ⟨AX, cX, rfl, lx, b12⟩; have HX12 := Lib.hid lx; have HB12 := Lib.hid (HB11.out.trans (b12.mono HB11.out.size)); have HG12 := Lib.hid (HG11.out.below b12 HG11.out.inside); have HA12 := Lib.hid (HA11.out.below b12); clear lx b12))
                rename World => w13
                clear HX12 HB12 HG12 HA12 HL11 HG11 HA11 HB11 SP OW hmv hlt
                go_loopw [14, 15] (fun v14 s wr => ∃ (i : Nat) (N : List Rc) (D : Option Addr) (c9 : Nat), i ≤ NS.length ∧ N.length ≤ 300 * i ∧ v14 = .slice D N.length c9 ∧ s = .int .i64 i ∧ Hid (N = (NS.take i).flatMap (foldV o.k)) ∧ Hid (OwnR wr w13.heap.size (.slice D N.length c9) N) ∧ Hid (Below w13.heap.size w13 wr)) (fun _ s _ => NS.length - (intOf s).toNat)
                case atStart => exact ⟨0, [], none, 0, Nat.zero_le _, by simp, rfl, rfl, Lib.hid (by simp), Lib.hid (ownG_nil _ _), Lib.hid (Below.refl _ _)⟩
                case round =>
                  obtain ⟨i, N, D, c9, hi, hN3, rfl, rfl, HN, HO, HBr⟩ := hrel
                  rename World => w14
                  have HNm := Lib.hid (show NS.length ≤ 4 by rw [HNl.out]; exact hm2)
                  by_cases hlt : i < NS.length
                  · obtain ⟨P, hP, hPm⟩ : ∃ P, NS[i]? = some P ∧ P ∈ NS := ⟨NS[i], List.getElem?_eq_getElem hlt, List.getElem_mem hlt⟩
                    obtain ⟨bs, os, BP, cP, hA, hbs, dP, lP⟩ := HS13.out.rows i P hP
                    subst hA
                    obtain ⟨iP, mP⟩ := HNP.out P hPm
                    have GP7 := Lib.hid (fun w7 (b : Below w13.heap.size w13 w7) => GA.out BP cP P w7 iP (by omega) (lP.below b))
                    rw [HGO.out P] at GP7
                    have HFL : Hid ((foldV o.k P).length ≤ 300 ∧ N.length ≤ 1200) := Lib.hid ⟨Nat.le_trans (fold_len _ _) mP, by have := HNm.out; omega⟩
                    have HNX := Lib.hid (show (NS.take (i + 1)).flatMap (foldV o.k) = (NS.take i).flatMap (foldV o.k) ++ foldV o.k P by rw [take_next hP, List.flatMap_append]; simp)
                    generalize foldV o.k P = FP at GP7 HFL HNX
                    clear hP hPm iP mP lP
                    go_upto_region 27 with fail
                    refine region_fullZ 101 [(8, 9), (8, 7)] [] [(8, 7)] (fun k => k == 8) (fun w7 => Below w13.heap.size w13 w7) ?hR ?r0 [pdOne 0 (Is (.slice D N.length c9)), pdOne 1 (Is (.agg (odV o))), pdOne 2 (Is (.agg (odV o))), pdOne 3 (Is (.slice (some ⟨bs, os, none⟩) NS.length cS)), pdOne 4 (Is (.int .i64 (i : Nat))), pdOne 5 (Is (.pointer (some ⟨bs, os + i * 1, none⟩))), pdOne 6 (Is (.slice BP P.length cP)), pdOne 7 (RowP FP), pdOne 8 (OwnP w13.heap.size (N ++ FP)), pdOne 9 (OwnP w13.heap.size (N ++ FP))] (fun k w7 => OwnR w7 w13.heap.size (.slice D N.length c9) N) (by kernel_rfl) rfl (by kernel_rfl) (by kernel_rfl) (by kernel_rfl) (by kernel_rfl) (by kernel_rfl) ?keep ?hO ?h0 ?tell
                    case hR => exact fun wa wb hb h => h.trans (hb.mono h.size)
                    case r0 => exact HBr.out
                    case keep => exact ⟨keep_one (keeps_is _), keep_one (keeps_is _), keep_one (keeps_is _), keep_one (keeps_is _), keep_one (keeps_is _), keep_one (keeps_is _), keep_one (keeps_is _), keep_one (keeps_rowP _), keep_one (keeps_ownP _ _), keep_one (keeps_ownP _ _), trivial⟩
                    case hO => exact fun _ _ _ hb h => h.below hb
                    case h0 => exact fun _ _ => HO.out
                    case tell =>
                      intro fin hfin
                      simp [lexPut, Act.put] at hfin
                      simp only [TellZ]
                      refine ⟨⟨?_, ?_, ?_, ?_, ?_, ?_, ?_, ?_, ?_, ?_, trivial⟩, ?_⟩
                      · intro v2 w7 hr hd
                        refine ⟨by intro j b e; simp at e, ?_⟩
                        refine yields_run (u := .slice D N.length c9) (w' := w7) ?_ (Below.refl _ _) rfl
                        unfold execOp
                        simp [go_sem, Act.eval]
                      · intro v2 w7 hr hd
                        refine ⟨by intro j b e; simp at e, ?_⟩
                        have k0 := (HG13.out.below hr HG13.out.inside).read 0
                        have k1 := (HG13.out.below hr HG13.out.inside).read 1
                        have k2 := (HG13.out.below hr HG13.out.inside).read 2
                        have k3 := (HG13.out.below hr HG13.out.inside).read 3
                        have k4 := (HG13.out.below hr HG13.out.inside).read 4
                        have k5 := (HG13.out.below hr HG13.out.inside).read 5
                        refine yields_run (u := .agg (odV o)) (w' := w7) ?_ (Below.refl _ _) rfl
                        unfold execOp
                        simp [go_sem, Act.eval, Act.put, k0, k1, k2, k3, k4, k5]
                      · intro v2 w7 hr hd
                        refine ⟨by intro j b e; simp at e, ?_⟩
                        have h1 : v2 1 = .agg (odV o) := hd 1 (by kernel_rfl)
                        refine yields_call (f := 8) rfl (vs := #[.agg (odV o)]) (by simp [Act.eval, Act.put, h1]) rfl Tryd.func8 (by kernel_rfl) (by kernel_rfl) ?_
                        exact (TO.out w7).mono fun e w' ⟨he, hb'⟩ => ⟨_, he, hb', rfl⟩
                      · intro v2 w7 hr hd
                        refine ⟨by intro j b e; simp at e, ?_⟩
                        refine yields_run (u := .slice (some ⟨bs, os, none⟩) NS.length cS) (w' := w7) ?_ (Below.refl _ _) rfl
                        unfold execOp
                        simp [go_sem, Act.eval, Act.put]
                      · intro v2 w7 hr hd
                        refine ⟨by intro j b e; simp at e, ?_⟩
                        refine yields_run (u := .int .i64 (i : Nat)) (w' := w7) ?_ (Below.refl _ _) rfl
                        unfold execOp
                        simp [go_sem, Act.eval, Act.put]
                      · intro v2 w7 hr hd
                        refine ⟨by intro j b e; simp at e, ?_⟩
                        have h3 : v2 3 = .slice (some ⟨bs, os, none⟩) NS.length cS := hd 3 (by kernel_rfl)
                        have h4 : v2 4 = .int .i64 (i : Nat) := hd 4 (by kernel_rfl)
                        exact yields_index (b := bs) (off := os) (n := NS.length) (c := cS) (i := i) (m := 1) rfl (by simp [Act.eval, Act.put, h3, h4]) (by simp [Act.eval, Act.put, h3, h4]) hlt Tryd.underlying35 (by intro w; simp [Tryd.sizeOf24])
                      · intro v2 w7 hr hd
                        refine ⟨by intro j b e; simp at e, ?_⟩
                        have h5 : v2 5 = .pointer (some ⟨bs, os + i * 1, none⟩) := hd 5 (by kernel_rfl)
                        have k0 := (hr.cell (p := ⟨bs, os + i, none⟩) hbs).trans dP
                        refine yields_run (u := .slice BP P.length cP) (w' := w7) ?_ (Below.refl _ _) rfl
                        unfold execOp
                        simp [go_sem, Act.eval, Act.put, h5, k0]
                      · intro v2 w7 hr hd
                        refine ⟨by intro j b e; simp at e, ?_⟩
                        have h2 : v2 2 = .agg (odV o) := hd 2 (by kernel_rfl)
                        have h6 : v2 6 = .slice BP P.length cP := hd 6 (by kernel_rfl)
                        refine yields_call (f := 11) rfl (vs := #[.agg (odV o), .slice BP P.length cP]) (by simp [Act.eval, Act.put, h2, h6]) rfl Tryd.func11 (by kernel_rfl) (by kernel_rfl) ?_
                        exact (GP7.out w7 hr).mono fun e w' ⟨B9, c9, he, hl9, hb'⟩ => ⟨_, he, hb', B9, c9, rfl, hl9⟩
                      · intro v2 w7 hr ho hd
                        refine ⟨by intro j b e; simp at e, ?_⟩
                        have h0 : v2 0 = .slice D N.length c9 := hd 0 (by kernel_rfl)
                        have hown := ho
                        obtain ⟨A7, c7, h7, hM7⟩ : RowP FP (v2 7) w7 := hd 7 (by kernel_rfl)
                        refine .inl (yields_append_row (T := 33) cellsR (by decide) (.tmp 89) (.tmp 96) 24 rfl w13.heap.size i0 (.agg #[.int .i64 0, .int .i64 0]) 16 Tryd.underlying24 hi0 hz0 hz1 hz2 rfl (A := A7) (c := c7) (N := N) (M := FP) (by simp [Act.eval, Act.put, h0]) (by simp [Act.eval, Act.put, h7]) hown hM7 (by unfold maxLen; have := HFL.out; omega) (by have := HFL.out; omega) hr.size ?_)
                        intro B8 cap8 w8 hown8 hgrow hat
                        refine ⟨hr.grown hgrow hr.size (fun j hj => (hown.lt j hj).1), ?_, ?_, B8, cap8, rfl, hown8⟩
                        · intro k2 v' hk2 hc hu
                          exact match k2, hk2, hc, hu with
                            | 0, _, _, hu => hu
                            | 1, _, _, hu => hu
                            | 2, _, _, hu => hu
                            | 3, _, _, hu => hu
                            | 4, _, _, hu => hu
                            | 5, _, _, hu => hu
                            | 6, _, _, hu => hu
                            | 7, _, hc, _ => absurd hc (by decide)
                            | 8, hk2, _, _ => absurd rfl hk2
                            | 9, _, hc, _ => absurd hc (by decide)
                            | _ + 10, _, _, _ => trivial
                        · intro k2 hk2 hn hc2 h
                          exact absurd (by simpa using hn) hk2
                      · intro v2 w7 hr hd
                        refine ⟨by intro j b e; simp at e, ?_⟩
                        have hP : OwnP w13.heap.size (N ++ FP) (v2 8) w7 := hd 8 (by kernel_rfl)
                        refine yields_run (u := v2 8) (w' := w7) ?_ (Below.refl _ _) hP
                        unfold execOp
                        simp [go_sem, Act.eval, Act.put]
                      · intro v2 w7 hr hv
                        obtain ⟨B9, c9, h9, o9⟩ : OwnP w13.heap.size (N ++ FP) (v2 9) w7 := hv 9 (by decide) (by decide)
                        rw [hfin]
                        generalize v2 9 = v9 at h9 ⊢
                        subst h9
                        have HO9 := Lib.hid o9
                        have HB9 := Lib.hid hr
                        clear hfin hv hr o9
                        generalize v2 = vz
                        have hNm4 := HNm.out
                        go_wp2_with fail
                        go_roundw
                        case rel => exact ⟨i + 1, N ++ FP, B9, c9, by omega, by rw [List.length_append]; have := HFL.out; omega, rfl, by go_num, Lib.hid (by rw [HNX.out, HN.out]), HO9, HB9⟩
                        case measure => simp [intOf]; omega
                  · obtain rfl : i = NS.length := by omega
                    rw [List.take_length] at HN
                    have HS14 : Hid (srtR N = srtR M1) := Lib.hid (srt_congr (by rw [HN.out, HMF.out]; exact HNF.out))
                    have SE := Lib.hid (fun A B c d w0 h k => same_any A B c d N M1 (by have := HNm.out; omega) (by omega) w0 h k)
                    rw [decide_eq_true HS14.out] at SE
                    have HA14 := Lib.hid (HA13.out.below HBr.out)
                    have HN14 := Lib.hid (HO.out.lg cellsR)
                    have HB14 := Lib.hid (HB13.out.trans (HBr.out.mono HB13.out.size))
                    clear HN HO HS14 HBr
                    go_wp2_with (go_at_call 12; refine (SE.out D BA c9 cA _ HN14.out HA14.out).mono ?_; rintro e w15 ⟨rfl, b15⟩; have HB15 := Lib.hid (HB14.out.trans (b15.mono HB14.out.size)); clear b15)
                    go_ret
                    exact ⟨rfl, HB15.out⟩
end Go.Proofs.YtpbdfiddgbkkmaaDoor.oper
